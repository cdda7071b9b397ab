/-
  The law EapProves, all ways together.
-/
import Derived.Test.YtjimoegegigoiaaDoorEaProvF
import Derived.Test.YtjimoegegigoiaaDoorEaProvR
namespace Go.Proofs.YtjimoegegigoiaaDoor
open Go.RowKit Go.Shelf
set_option maxRecDepth 100000
set_option maxHeartbeats 2000000
set_option linter.unusedSimpArgs false
set_option linter.unusedVariables false

theorem eapproves_walk (name server : ByteArray) (A2 : Option Addr) (n2 c2 : Nat) (A3 : Option Addr) (n3 c3 : Nat) (A4 : Option Addr) (n4 c4 : Nat) (id : Int) (ss : List Sec) (chal prf : List UInt8) (w : World) (hn0 : name.size ≤ 140737488351232) (hn1 : server.size ≤ 140737488351232) (hs : SecRd w w.heap.size A2 n2 ss) (hr3 : Rd w w.heap.size A3 n3 chal) (z3 : A3 = none → c3 = 0) (q3 : n3 ≤ 140737488351232) (hr4 : Rd w w.heap.size A4 n4 prf) (z4 : A4 = none → c4 = 0) (q4 : n4 ≤ 140737488351232) (hK : TabK w) (hS : TabS w) :
    Calls Tryd.prog 4 #[.string name, .string server, .slice A2 n2 c2, .slice A3 n3 c3, .slice A4 n4 c4, .int .i64 id] w fun e w' => e = .returned (.bool true) ∧ Below w.heap.size w w' := by
  by_cases h1 : nameB server = true ∧ (chk ss).1 = 0
  case neg => exact eapproves_none name server A2 n2 c2 A3 n3 c3 A4 n4 c4 id ss chal prf w hn0 hn1 hs hr3 z3 q3 hr4 z4 q4 hK hS h1
  obtain ⟨hsv, hck⟩ := h1
  by_cases hb : 16380 < 1 + name.size
  · exact eapproves_big name server A2 n2 c2 A3 n3 c3 A4 n4 c4 id ss chal prf w hn0 hn1 hs hr3 z3 q3 hr4 z4 q4 hK hS hsv hck hb
  by_cases h2 : knB ss server name = true ∧ chB n3 = true
  case neg => exact eapproves_who name server A2 n2 c2 A3 n3 c3 A4 n4 c4 id ss chal prf w hn0 hn1 hs hr3 z3 q3 hr4 z4 q4 hK hS hsv hck hb h2
  obtain ⟨hk, hc⟩ := h2
  obtain ⟨P, hP⟩ : ∃ P, (((n4 : Int) < 1 ∨ (255 : Int) < (n4 : Int)) ∧ P = digL 2 (wdS ss (bst ss name server)) chal) ∨ (¬ (n4 : Int) < 1 ∧ ¬ (255 : Int) < (n4 : Int) ∧ P = prf) := by
    by_cases h : (n4 : Int) < 1 ∨ (255 : Int) < (n4 : Int)
    · exact ⟨_, .inl ⟨h, rfl⟩⟩
    · exact ⟨_, .inr ⟨fun e => h (.inl e), fun e => h (.inr e), rfl⟩⟩
  by_cases h3 : id = 2
  · subst h3
    by_cases hr : P = digL 2 (wdS ss (bst ss name server)) chal
    · exact eapproves_right name server A2 n2 c2 A3 n3 c3 A4 n4 c4 ss chal prf w hn0 hn1 hs hr3 z3 q3 hr4 z4 q4 hK hS hsv hck hb hk hc P hP hr
    · exact eapproves_wrong name server A2 n2 c2 A3 n3 c3 A4 n4 c4 ss chal prf w hn0 hn1 hs hr3 z3 q3 hr4 z4 q4 hK hS hsv hck hb hk hc P hP hr
  · cases hi : idB id
    · exact eapproves_bad name server A2 n2 c2 A3 n3 c3 A4 n4 c4 id ss chal prf w hn0 hn1 hs hr3 z3 q3 hr4 z4 q4 hK hS hsv hck hb hk hc P hP hi h3
    · exact eapproves_far name server A2 n2 c2 A3 n3 c3 A4 n4 c4 id ss chal prf w hn0 hn1 hs hr3 z3 q3 hr4 z4 q4 hK hS hsv hck hb hk hc P hP hi h3
end Go.Proofs.YtjimoegegigoiaaDoor
