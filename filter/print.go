package filter

import (
	"strconv"

	"tether/sight"
	"tether/spell"
)

// text answers the text of l, a tree, whose tests may be none.
func text(l []Node) string {
	texts := make([]string, len(l))
	for i, n := range l {
		switch x := shapeOf(n).(type) {
		case test:
			texts[i] = writer(x.Kind)(x)
		case inverse:
			texts[i] = notWord + " " + texts[x.a]
		case group:
			texts[i] = "(" + texts[x.a] + ")"
		case both:
			texts[i] = texts[x.a] + " " + andWord + " " + texts[x.b]
		case oneOf:
			texts[i] = texts[x.a] + " " + orWord + " " + texts[x.b]
		}
	}
	return texts[len(l)-1]
}

// writer answers how a test of that kind is written.
func writer(kind int) func(test) string {
	switch kind {
	case Proto:
		return test.protoText
	case Host:
		return test.hostText
	case Net:
		return test.netText
	case Port:
		return test.portText
	case Less:
		return test.lessText
	case More:
		return test.moreText
	}
	return test.noText
}

// protoText has the protocol's own word, if it has one.
func (t test) protoText() string {
	for _, w := range protoWords {
		if w.n == t.N {
			return w.word
		}
	}
	return protoWord + " " + strconv.FormatInt(t.N-sight.Protocols, 10)
}

func (t test) hostText() string {
	return t.ends() + hostWord + " " + t.addr()
}

func (t test) netText() string {
	return t.ends() + netWord + " " + t.addr() + "/" + strconv.Itoa(t.Len)
}

func (t test) portText() string {
	return t.ends() + portWord + " " + strconv.FormatInt(t.N, 10)
}

func (t test) lessText() string {
	return lessWord + " " + strconv.FormatInt(t.N, 10)
}

func (t test) moreText() string {
	return moreWord + " " + strconv.FormatInt(t.N, 10)
}

// noText is the text of what is no test: none, which nobody reads.
func (t test) noText() string {
	return ""
}

// ends answers the word ahead that says which end is meant.
func (t test) ends() string {
	switch t.Dir {
	case Src:
		return srcWord + " "
	case Dst:
		return dstWord + " "
	}
	return ""
}

// addr answers the address's text; of what is none, one that nobody reads.
func (t test) addr() string {
	s, _ := spell.AddrText(t.N)
	return s
}
