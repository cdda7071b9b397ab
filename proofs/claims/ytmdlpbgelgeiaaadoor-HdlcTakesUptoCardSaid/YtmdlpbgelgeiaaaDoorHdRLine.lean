/-
  The reference's line: what has come since the last flag, as it came; beside the program's.
  The sum behind bytes: it is theirs just where the whole leaves the good rest.
  tetherref03.Line in memory: New; a flag that finds nothing, an escape that is cut off.
-/
import Derived.Test.YtmdlpbgelgeiaaaDoorHdIt
import Derived.Test.YtmdlpbgelgeiaaaDoorPuts16
import Derived.Test.YtmdlpbgelgeiaaaDoorBurst0
import Derived.Test.YtmdlpbgelgeiaaaDoorHdRParse
import Derived.Test.YtmdlpbgelgeiaaaDoorHdFrm
namespace Go.Proofs.YtmdlpbgelgeiaaaDoor
open Go.RowKit
set_option maxRecDepth 100000
set_option linter.unusedSimpArgs false
set_option linter.unusedVariables false

structure RSt where
  raw : List UInt8
  fr : Int
  ru : Int
  gi : Int
  su : Int
  ab : Int
  wr : Int
def rs0 : RSt := ⟨[], 0, 0, 0, 0, 0, 0⟩
def unS (x : Bool × List UInt8) (c : UInt8) : Bool × List UInt8 := if c = 125 ∧ x.1 = false then (true, x.2) else (false, x.2 ++ [turnB x.1 c])
/-- escapes undone: is one open, and the bytes -/
def unE (l : List UInt8) : Bool × List UInt8 := l.foldl unS (false, [])
theorem unE_app (l : List UInt8) (c : UInt8) : unE (l ++ [c]) = unS (unE l) c := by simp [unE, List.foldl_append]
def unL (r : RSt) : List UInt8 := (unE r.raw).2
theorem unE_len : ∀ (l : List UInt8), (unE l).2.length ≤ l.length := by
  intro l
  have h : ∀ (l : List UInt8) (x : Bool × List UInt8), (l.foldl unS x).2.length ≤ x.2.length + l.length := by
    intro l
    induction l with
    | nil => intro x; simp
    | cons c l ih =>
      intro x
      rw [List.foldl_cons]
      have h1 := ih (unS x c)
      have h2 : (unS x c).2.length ≤ x.2.length + 1 := by
        unfold unS
        split
        · show x.2.length ≤ _; omega
        · show (x.2 ++ [_]).length ≤ _; simp
      simp only [List.length_cons]
      omega
  have := h l (false, [])
  simpa [unE] using this
def rclr (r : RSt) : RSt := { r with raw := [] }
/-- what a flag makes of it -/
def rwhS (M : Nat) (p q : Bool) (r : RSt) : RSt :=
  if r.raw.length = 0 then rclr r else if r.raw.getLast? = some 125 then { rclr r with ab := inc r.ab } else if (unL r).length < 4 then { rclr r with ru := inc r.ru } else if M < (unL r).length then { rclr r with gi := inc r.gi }
  else if jdK p q (unL r) = 0 then { rclr r with fr := inc r.fr } else if jdK p q (unL r) = 1 then { rclr r with su := inc r.su } else { rclr r with wr := inc r.wr }
def rwhB (M : Nat) (p q : Bool) (r : RSt) : Bool := if r.raw.length = 0 ∨ r.raw.getLast? = some 125 ∨ (unL r).length < 4 ∨ M < (unL r).length then false else jdK p q (unL r) == 0
def rstp (a : Int) (M : Nat) (p q : Bool) (r : RSt) (c : UInt8) : RSt := if c = 126 then rwhS M p q r else if c.toNat < 32 ∧ nmd a c.toNat = true then r else { r with raw := r.raw ++ [c] }
def rout (a : Int) (M : Nat) (p q : Bool) (r : RSt) (c : UInt8) : List Frm := if c = 126 ∧ rwhB M p q r = true then [(frP (unL r), frI (unL r))] else []
/-- the two of them beside each other -/
structure Tie (M : Nat) (s : LSt) (r : RSt) : Prop where
  t : s.turns = (unE r.raw).1
  o : s.opn = decide (r.raw.getLast? = some 125)
  h : s.held = (unE r.raw).2.take (M + 1)
  fr : s.fr = r.fr
  ru : s.ru = r.ru
  gi : s.gi = r.gi
  su : s.su = r.su
  ab : s.ab = r.ab
  wr : s.wr = r.wr
theorem Tie.zero (M : Nat) : Tie M st0 rs0 := ⟨rfl, rfl, rfl, rfl, rfl, rfl, rfl, rfl, rfl⟩
theorem Tie.clear {M : Nat} {s : LSt} {r : RSt} (h : Tie M s r) : Tie M (rstS s) (rclr r) := ⟨rfl, rfl, rfl, h.fr, h.ru, h.gi, h.su, h.ab, h.wr⟩
theorem addL_take (M : Nat) (u : List UInt8) (x : UInt8) : addL M (u.take (M + 1)) x = (u ++ [x]).take (M + 1) := by
  unfold addL
  rw [List.length_take]
  by_cases h : u.length ≤ M
  · rw [if_pos (by omega), List.take_of_length_le (by omega), List.take_of_length_le (by simp; omega)]
  · rw [if_neg (by omega), List.take_append_of_le_length (by omega)]
theorem Tie.byte {M : Nat} {s : LSt} {r : RSt} (h : Tie M s r) (c : UInt8) : Tie M (tkS M s c) { r with raw := r.raw ++ [c] } := by
  have hl : (r.raw ++ [c]).getLast? = some c := by simp
  unfold tkS
  by_cases h1 : c = 125 ∧ s.turns = false
  · have e : unE (r.raw ++ [c]) = (true, (unE r.raw).2) := by
      rw [unE_app]; unfold unS; rw [if_pos ⟨h1.1, by rw [← h.t]; exact h1.2⟩]
    rw [if_pos h1]
    refine ⟨?_, ?_, ?_, h.fr, h.ru, h.gi, h.su, h.ab, h.wr⟩
    · show true = (unE (r.raw ++ [c])).1
      rw [e]
    · show true = decide ((r.raw ++ [c]).getLast? = some 125)
      rw [hl, h1.1]; rfl
    · show s.held = (unE (r.raw ++ [c])).2.take (M + 1)
      rw [e]; exact h.h
  · have e : unE (r.raw ++ [c]) = (false, (unE r.raw).2 ++ [turnB (unE r.raw).1 c]) := by
      rw [unE_app]; unfold unS; rw [if_neg (by rw [← h.t]; exact h1)]
    rw [if_neg h1]
    refine ⟨?_, ?_, ?_, h.fr, h.ru, h.gi, h.su, h.ab, h.wr⟩
    · show false = (unE (r.raw ++ [c])).1
      rw [e]
    · show decide (c = 125) = decide ((r.raw ++ [c]).getLast? = some 125)
      rw [hl]; simp
    · show addL M s.held (turnB s.turns c) = (unE (r.raw ++ [c])).2.take (M + 1)
      rw [e, h.h, h.t]
      exact addL_take M _ _
theorem unE_pos {l : List UInt8} (h0 : l.length ≠ 0) (h1 : l.getLast? ≠ some 125) : (unE l).2.length ≠ 0 := by
  rcases List.eq_nil_or_concat l with e | ⟨xs, c, e⟩
  · rw [e] at h0; simp at h0
  · have e2 : l = xs ++ [c] := by simpa using e
    subst e2
    have hc : c ≠ 125 := fun e => h1 (by rw [e]; simp)
    rw [unE_app]
    unfold unS
    rw [if_neg (fun x => hc x.1)]
    simp
theorem Tie.flag {M : Nat} {s : LSt} {r : RSt} (hM : 4 ≤ M) (h : Tie M s r) (p q : Bool) : Tie M (endS M p q s) (rwhS M p q r) ∧ endB M p q s = rwhB M p q r ∧ (rwhB M p q r = true → s.held = unL r) := by
  have hh := h.h
  have ho := h.o
  have hc := h.clear
  unfold endS rwhS endB rwhB
  by_cases z : r.raw.length = 0
  · have e : r.raw = [] := List.eq_nil_of_length_eq_zero z
    have o1 : s.opn = false := by rw [ho, e]; rfl
    have o2 : s.held = [] := by rw [hh, e]; rfl
    rw [if_pos z, if_neg (by rw [o1]; simp), if_pos (by rw [o2]; rfl), if_pos (.inr (.inl (by rw [o2]; simp))), if_pos (.inl z)]
    exact ⟨hc, rfl, fun x => by cases x⟩
  · by_cases y : r.raw.getLast? = some 125
    · have o1 : s.opn = true := by rw [ho]; simpa using y
      rw [if_neg z, if_pos y, if_pos o1, if_pos (.inl o1), if_pos (.inr (.inl y))]
      exact ⟨⟨hc.t, hc.o, hc.h, h.fr, h.ru, h.gi, h.su, by show inc s.ab = inc r.ab; rw [h.ab], h.wr⟩, rfl, fun x => by cases x⟩
    · have o1 : ¬ s.opn = true := by rw [ho]; simpa using y
      have u0 := unE_pos z y
      have hlen : s.held.length = min (M + 1) (unL r).length := by rw [hh, List.length_take]; rfl
      have u1 : (unL r).length ≠ 0 := u0
      rw [if_neg z, if_neg y, if_neg o1, if_neg (by omega)]
      by_cases x : (unL r).length < 4
      · rw [if_pos x, if_pos (by omega), if_pos (.inr (.inl (by omega))), if_pos (.inr (.inr (.inl x)))]
        exact ⟨⟨hc.t, hc.o, hc.h, h.fr, by show inc s.ru = inc r.ru; rw [h.ru], h.gi, h.su, h.ab, h.wr⟩, rfl, fun x => by cases x⟩
      · by_cases v : M < (unL r).length
        · rw [if_neg x, if_pos v, if_neg (by omega), if_pos (by omega), if_pos (.inr (.inr (by omega))), if_pos (.inr (.inr (.inr v)))]
          exact ⟨⟨hc.t, hc.o, hc.h, h.fr, h.ru, by show inc s.gi = inc r.gi; rw [h.gi], h.su, h.ab, h.wr⟩, rfl, fun x => by cases x⟩
        · have e : s.held = unL r := by rw [hh]; exact List.take_of_length_le (by show (unL r).length ≤ _; omega)
          have m1 : ¬ s.held.length < 4 := by rw [e]; exact x
          have m2 : ¬ M < s.held.length := by rw [e]; exact v
          have n1 : ¬ (s.opn = true ∨ s.held.length < 4 ∨ M < s.held.length) := by
            rintro (k | k | k)
            · exact o1 k
            · exact m1 k
            · exact m2 k
          have n2 : ¬ (r.raw.length = 0 ∨ r.raw.getLast? = some 125 ∨ (unL r).length < 4 ∨ M < (unL r).length) := by
            rintro (k | k | k | k)
            · exact z k
            · exact y k
            · exact x k
            · exact v k
          rw [if_neg x, if_neg v, if_neg m1, if_neg m2, if_neg n1, if_neg n2, e]
          refine ⟨?_, rfl, fun _ => rfl⟩
          unfold jdS
          split
          · exact ⟨hc.t, hc.o, hc.h, by show inc s.fr = inc r.fr; rw [h.fr], h.ru, h.gi, h.su, h.ab, h.wr⟩
          · split
            · exact ⟨hc.t, hc.o, hc.h, h.fr, h.ru, h.gi, by show inc s.su = inc r.su; rw [h.su], h.ab, h.wr⟩
            · exact ⟨hc.t, hc.o, hc.h, h.fr, h.ru, h.gi, h.su, h.ab, by show inc s.wr = inc r.wr; rw [h.wr]⟩
theorem kd_flag (a : Int) (c : UInt8) : kd a c.toNat = 3 ↔ c = 126 := by
  unfold kd
  constructor
  · intro h
    by_cases h1 : c.toNat = 126
    · exact UInt8.toNat_inj.1 h1
    · rw [if_neg h1] at h
      split at h
      · cases h
      · split at h <;> cases h
  · intro h; subst h; rfl
theorem kd_named (a : Int) (c : UInt8) (h : c ≠ 126) : kd a c.toNat = 1 ↔ (c.toNat < 32 ∧ nmd a c.toNat = true) := by
  have h1 : ¬ c.toNat = 126 := fun e => h (UInt8.toNat_inj.1 e)
  unfold kd
  rw [if_neg h1]
  constructor
  · intro k
    split at k
    · cases k
    · split at k
      · assumption
      · cases k
  · intro k
    rw [if_neg (by omega), if_pos k]
/-- a byte that comes does the same to both -/
theorem Tie.step {M : Nat} {s : LSt} {r : RSt} (hM : 4 ≤ M) (h : Tie M s r) (a : Int) (p q : Bool) (c : UInt8) : Tie M (stp1 a M p q s c) (rstp a M p q r c) ∧ out1 a M p q s c = rout a M p q r c := by
  unfold stp1 rstp out1 rout
  by_cases h1 : c = 126
  · have k3 := (kd_flag a c).2 h1
    obtain ⟨x, y, z⟩ := h.flag hM p q
    rw [if_neg (by omega), if_pos k3, if_pos h1]
    refine ⟨x, ?_⟩
    by_cases hb : rwhB M p q r = true
    · rw [if_pos ⟨k3, by rw [y]; exact hb⟩, if_pos ⟨h1, hb⟩, z hb]
    · rw [if_neg (fun k => hb (by rw [← y]; exact k.2)), if_neg (fun k => hb k.2)]
  · have k3 : ¬ kd a c.toNat = 3 := fun e => h1 ((kd_flag a c).1 e)
    have n1 : ¬ (kd a c.toNat = 3 ∧ endB M p q s = true) := fun k => k3 k.1
    have n2 : ¬ (c = 126 ∧ rwhB M p q r = true) := fun k => h1 k.1
    rw [if_neg h1, if_neg k3, if_neg n1, if_neg n2]
    refine ⟨?_, rfl⟩
    by_cases hn : c.toNat < 32 ∧ nmd a c.toNat = true
    · rw [if_pos ((kd_named a c h1).2 hn), if_pos hn]; exact h
    · rw [if_neg (fun k => hn ((kd_named a c h1).1 k)), if_neg hn]; exact h.byte c
def rrun (a : Int) (M : Nat) (p q : Bool) (r : RSt) (l : List UInt8) : RSt := l.foldl (rstp a M p q) r
def rfrs (a : Int) (M : Nat) (p q : Bool) : RSt → List UInt8 → List Frm
  | _, [] => []
  | r, c :: l => rout a M p q r c ++ rfrs a M p q (rstp a M p q r c) l
theorem Tie.run {M : Nat} (hM : 4 ≤ M) (a : Int) (p q : Bool) : ∀ (l : List UInt8) {s : LSt} {r : RSt}, Tie M s r → Tie M (runS a M p q s l) (rrun a M p q r l) ∧ frs a M p q s l = rfrs a M p q r l
  | [], s, r, h => ⟨h, rfl⟩
  | c :: l, s, r, h => by
    obtain ⟨h1, h2⟩ := h.step hM a p q c
    obtain ⟨h3, h4⟩ := Tie.run hM a p q l h1
    refine ⟨h3, ?_⟩
    show out1 a M p q s c ++ frs a M p q _ l = rout a M p q r c ++ rfrs a M p q _ l
    rw [h2, h4]
theorem rrun_app (a : Int) (M : Nat) (p q : Bool) (r : RSt) (l : List UInt8) (c : UInt8) : rrun a M p q r (l ++ [c]) = rstp a M p q (rrun a M p q r l) c := by simp [rrun, List.foldl_append]
theorem rfrs_app (a : Int) (M : Nat) (p q : Bool) : ∀ (l : List UInt8) (r : RSt) (c : UInt8), rfrs a M p q r (l ++ [c]) = rfrs a M p q r l ++ rout a M p q (rrun a M p q r l) c
  | [], r, c => by show rout a M p q r c ++ [] = [] ++ rout a M p q r c; simp
  | d :: l, r, c => by
    show rout a M p q r d ++ rfrs a M p q _ (l ++ [c]) = (rout a M p q r d ++ rfrs a M p q _ l) ++ _
    rw [rfrs_app a M p q l, List.append_assoc]
    rfl
theorem rstp_len (a : Int) (M : Nat) (p q : Bool) (r : RSt) (c : UInt8) : (rstp a M p q r c).raw.length ≤ r.raw.length + 1 := by
  unfold rstp
  split
  · have e : (rwhS M p q r).raw = [] := by
      unfold rwhS
      repeat' split
      all_goals rfl
    rw [e]; simp
  · split
    · omega
    · show (r.raw ++ [c]).length ≤ _; simp
end Go.Proofs.YtmdlpbgelgeiaaaDoor
namespace Go.Proofs.YtmdlpbgelgeiaaaDoor
set_option linter.unusedSimpArgs false
set_option linter.unusedVariables false

theorem glue8 (m : Nat) (hm : m < 256) (t : Nat) : m ^^^ 256 * t = m + 256 * t := by
  have h := Nat.two_pow_add_eq_or_of_lt (i := 8) hm t
  have hz : m ^^^ 2 ^ 8 * t = 2 ^ 8 * t ||| m := by
    apply Nat.eq_of_testBit_eq
    intro i
    rw [Nat.testBit_xor, Nat.testBit_or, Nat.testBit_two_pow_mul]
    by_cases hi : 8 ≤ i
    · have : m.testBit i = false := Nat.testBit_lt_two_pow (Nat.lt_of_lt_of_le (show m < 2 ^ 8 from hm) (Nat.pow_le_pow_right (by decide) hi))
      simp [hi, this]
    · simp [hi]
  show m ^^^ 2 ^ 8 * t = _
  rw [hz, ← h]
  omega
theorem crc_two (r : Nat) (a b : UInt8) : crc P16 r [a, b] = stps P16 16 (r ^^^ (a.toNat + 256 * b.toNat)) := by
  have step : ∀ a b, stps P16 8 a ^^^ b = stps P16 8 (a ^^^ 256 * b) := by
    intro a b
    rw [stps_xor, show 256 * b = 2 ^ 8 * b from rfl, stps16_low]
  show stps P16 8 (stps P16 8 (r ^^^ a.toNat) ^^^ b.toNat) = _
  rw [step, ← stps_add, Nat.xor_assoc, glue8 _ a.toNat_lt]
theorem stps16_inj {x y : Nat} (hx : x < 2 ^ 16) (hy : y < 2 ^ 16) (h : stps P16 16 x = stps P16 16 y) : x = y := by
  have h1 : stps P16 16 (x ^^^ y) = 0 := by rw [stps_xor, h, Nat.xor_self]
  have h2 := stps_none (p := P16) (k := 15) (by decide) (by decide) 16 (x ^^^ y) (Nat.xor_lt_two_pow hx hy) h1
  have h3 : x ^^^ y ^^^ y = 0 ^^^ y := by rw [h2]
  rw [Nat.xor_assoc, Nat.xor_self, Nat.xor_zero, Nat.zero_xor] at h3
  exact h3
theorem sum_iff (m : List UInt8) (a b : UInt8) : crc P16 65535 (m ++ [a, b]) = 61624 ↔ (a.toNat = sum16 m % 256 ∧ b.toNat = sum16 m / 256) := by
  have hs := sum16_lt m
  have hg := good16 m
  have e : low16 (sum16 m) = [UInt8.ofNat (sum16 m % 256), UInt8.ofNat (sum16 m / 256 % 256)] := rfl
  have t0 : (UInt8.ofNat (sum16 m % 256)).toNat = sum16 m % 256 := by rw [UInt8.toNat_ofNat']; omega
  have t1 : (UInt8.ofNat (sum16 m / 256 % 256)).toNat = sum16 m / 256 := by rw [UInt8.toNat_ofNat']; omega
  have hr := crc16_lt m 65535 (by omega)
  have ha := a.toNat_lt
  have hb := b.toNat_lt
  rw [e, crc_append, crc_two, t0, t1] at hg
  rw [crc_append, crc_two]
  constructor
  · intro h
    have h2 := stps16_inj (Nat.xor_lt_two_pow hr (by omega)) (Nat.xor_lt_two_pow hr (by omega)) (h.trans hg.symm)
    have h3 : crc P16 65535 m ^^^ (crc P16 65535 m ^^^ (a.toNat + 256 * b.toNat)) = crc P16 65535 m ^^^ (crc P16 65535 m ^^^ (sum16 m % 256 + 256 * (sum16 m / 256))) := by rw [h2]
    rw [← Nat.xor_assoc, ← Nat.xor_assoc, Nat.xor_self, Nat.zero_xor, Nat.zero_xor] at h3
    omega
  · rintro ⟨h1, h2⟩
    rw [h1, h2]
    exact hg
end Go.Proofs.YtmdlpbgelgeiaaaDoor
namespace Go.Proofs.YtmdlpbgelgeiaaaDoor
open Go.RowKit
set_option maxRecDepth 100000
set_option maxHeartbeats 2000000
set_option linter.unusedSimpArgs false
set_option linter.unusedVariables false

def rlC (m a : Int) (p q : Bool) (Bv : Value) (r : RSt) : List Value := [.int .i64 m, .int .i64 a, .bool p, .bool q, Bv, .int .i64 r.fr, .int .i64 r.ru, .int .i64 r.gi, .int .i64 r.su, .int .i64 r.ab, .int .i64 r.wr]
structure RLn (W : World) (rb : Nat) (m a : Int) (p q : Bool) (Bv : Value) (r : RSt) : Prop where
  blk : Blk W rb 52 (rlC m a p q Bv r)
  own : Own W (rb + 1) Bv r.raw
section
variable {W V : World} {rb : Nat} {m a : Int} {p q : Bool} {Bv : Value} {r : RSt}
theorem RLn.later (h : RLn W rb m a p q Bv r) (hB : Below W.heap.size W V) : RLn V rb m a p q Bv r := ⟨(hB.block rb (Blk.lt h.blk)).trans h.blk, h.own.later hB⟩
theorem RLn.drewN (h : RLn W rb m a p q Bv r) (k : Nat) : RLn (W.drewN k) rb m a p q Bv r := ⟨h.blk, h.own⟩
theorem RLn.put {Bv' : Value} {r' : RSt} (h : RLn W rb m a p q Bv r) (i : Nat) (v : Value) (e : (rlC m a p q Bv r).set i v = rlC m a p q Bv' r') (ho : Own W (rb + 1) Bv' r'.raw) : RLn (W.setCell ⟨rb, i, none⟩ v) rb m a p q Bv' r' := by
  have h1 := h.blk.set_ i v
  rw [e] at h1
  refine ⟨h1, ho.grown (only_set _) ?_⟩
  rcases hg : Bv'.ownBlock with _ | g
  · exact .inl rfl
  · exact .inr (fun e => by have := (ho.block g hg).1; injection e with e; simp at e; omega)
theorem RLn.other (h : RLn W rb m a p q Bv r) (k i : Nat) (u : Value) (hk : k ≠ rb) (hn : Bv.ownBlock ≠ some k) : RLn (W.setCell ⟨k, i, none⟩ u) rb m a p q Bv r :=
  ⟨(Below.heap_setCell W ⟨k, i, none⟩ u rb (fun e => hk e.symm)).trans h.blk, h.own.grown (only_set _) (.inr hn)⟩
end
theorem gr_own {W V : World} {rb : Nat} (h : W.grownBy V (some rb)) (i : Nat) (v : Value) : W.grownBy (V.setCell ⟨rb, i, none⟩ v) (some rb) := only_then h (only_set _) (fun g e => .inl e)
theorem gr_new {W V : World} {rb : Nat} (h : W.grownBy V (some rb)) (k i : Nat) (v : Value) (hk : W.heap.size ≤ k) : W.grownBy (V.setCell ⟨k, i, none⟩ v) (some rb) := only_then h (only_set _) (fun g e => .inr (by injection e with e; simp at e; omega))
theorem gr_later {W V V' : World} {rb : Nat} (h : W.grownBy V (some rb)) (hB : Below V.heap.size V V') : W.grownBy V' (some rb) := only_then h (only_of_below hB none) (fun g e => by cases e)
theorem gr_alloc (W : World) (rb : Nat) (o : Obj) : W.grownBy (W.alloc o) (some rb) := by
  have h : Below W.heap.size W (W.alloc o) := (Below.refl _ _).alloc (Nat.le_refl _) _
  exact ⟨h.os, h.tape, h.output, h.size, fun i hi _ => h.block i hi⟩
theorem gr_draw {W V : World} {rb : Nat} (h : W.grownBy V (some rb)) (k : Nat) : W.grownBy (V.drewN k) (some rb) := ⟨h.os, h.tape, h.output, h.size, h.block⟩
/-- what a flag answers -/
def WhR (W w' : World) (rb : Nat) (m a : Int) (p q : Bool) (M : Nat) (r : RSt) (e : Ending) : Prop :=
  ∃ z A k c, e = .returned (.tuple #[.agg #[.int .i64 z, .slice A k c], .bool (rwhB M p q r)]) ∧ RLn w' rb m a p q (.slice none 0 0) (rwhS M p q r) ∧ (rwhB M p q r = true → z = frP (unL r) ∧ Own w' W.heap.size (.slice A k c) (frI (unL r))) ∧ W.grownBy w' (some rb)
theorem rnew_no (mru accm : Int) (p q : Bool) (w : World) (hb : newB mru accm = false) :
    Calls Tryd.prog 26 #[.int .i64 mru, .int .i64 accm, .bool p, .bool q] w fun e w' => e = .returned (.pointer none) ∧ w = w' := by
  have MC := Lib.hid (rmap_any accm w)
  by_cases h1 : mru < 64
  · have d1 : decide (mru < 64) = true := by simpa using h1
    clear hb
    go_enter Tryd.func26, Tryd.ntmps26
    go_wp2
    go_ret
    exact ⟨rfl, rfl⟩
  · have d1 : decide (mru < 64) = false := by simpa using h1
    by_cases h2 : 16384 < mru
    · have d2 : decide (16384 < mru) = true := by simpa using h2
      clear hb
      go_enter Tryd.func26, Tryd.ntmps26
      go_wp2
      go_ret
      exact ⟨rfl, rfl⟩
    · have d2 : decide (16384 < mru) = false := by simpa using h2
      have hm : mapB accm = false := by
        unfold newB at hb
        rw [decide_eq_true (by omega)] at hb
        simpa using hb
      rw [hm] at MC
      clear hb
      go_enter Tryd.func26, Tryd.ntmps26
      go_wp2_with (go_at_call 35; refine MC.out.mono ?_; rintro e w' ⟨rfl, rfl⟩)
      go_ret
      exact ⟨rfl, rfl⟩
theorem rnew_yes (mru accm : Int) (p q : Bool) (w : World) (hb : newB mru accm = true) :
    Calls Tryd.prog 26 #[.int .i64 mru, .int .i64 accm, .bool p, .bool q] w fun e w' => e = .returned (.pointer (some ⟨w.heap.size, 0, none⟩)) ∧ RLn w' w.heap.size mru accm p q (.slice none 0 0) rs0 ∧ Below w.heap.size w w' := by
  unfold newB at hb
  rw [Bool.and_eq_true] at hb
  obtain ⟨hmr, hm⟩ := hb
  have hmr' : 64 ≤ mru ∧ mru ≤ 16384 := by simpa using hmr
  have d1 : decide (mru < 64) = false := by simp; omega
  have d2 : decide (16384 < mru) = false := by simp; omega
  have MC := Lib.hid (rmap_any accm w)
  rw [hm] at MC
  have HB : Hid (RLn (w.alloc (.cells #[.int .i64 mru, .int .i64 accm, .bool p, .bool q, .slice none 0 0, .int .i64 0, .int .i64 0, .int .i64 0, .int .i64 0, .int .i64 0, .int .i64 0] 52)) w.heap.size mru accm p q (.slice none 0 0) rs0) := ⟨blk_new w _ _, Own.nil _ _⟩
  clear hm hmr
  go_enter Tryd.func26, Tryd.ntmps26
  go_wp2_with (go_at_call 35; refine MC.out.mono ?_; rintro e w' ⟨rfl, rfl⟩)
  go_ret
  exact ⟨rfl, HB.out, (Below.refl _ _).alloc (Nat.le_refl _) _⟩
/-- the end of a flag that finds no frame -/
theorem wh_fin {W V : World} {rb : Nat} {m a : Int} {p q : Bool} {r' : RSt} (h : RLn V rb m a p q (.slice none 0 0) r') (hg : W.grownBy V (some rb)) (hb : rb < W.heap.size) :
    RLn ((V.setCell ⟨W.heap.size, 0, none⟩ (.int .i64 0)).setCell ⟨W.heap.size, 1, none⟩ (.slice none 0 0)) rb m a p q (.slice none 0 0) r' ∧ W.grownBy ((V.setCell ⟨W.heap.size, 0, none⟩ (.int .i64 0)).setCell ⟨W.heap.size, 1, none⟩ (.slice none 0 0)) (some rb) :=
  ⟨(h.other _ 0 _ (by omega) (by simp [Value.ownBlock])).other _ 1 _ (by omega) (by simp [Value.ownBlock]), gr_new (gr_new hg _ 0 _ (Nat.le_refl _)) _ 1 _ (Nat.le_refl _)⟩
/-- where a flag begins -/
theorem wh_start {W : World} {rb : Nat} {m a : Int} {p q : Bool} {Bv : Value} {r : RSt} (h : RLn W rb m a p q Bv r) :
    RLn ((W.alloc (.cells #[.int .i64 0, .slice none 0 0] 24)).setCell ⟨rb, 4, none⟩ (.slice none 0 0)) rb m a p q (.slice none 0 0) (rclr r) ∧ W.grownBy ((W.alloc (.cells #[.int .i64 0, .slice none 0 0] 24)).setCell ⟨rb, 4, none⟩ (.slice none 0 0)) (some rb) ∧
      Own ((W.alloc (.cells #[.int .i64 0, .slice none 0 0] 24)).setCell ⟨rb, 4, none⟩ (.slice none 0 0)) (rb + 1) Bv r.raw ∧ Blk ((W.alloc (.cells #[.int .i64 0, .slice none 0 0] 24)).setCell ⟨rb, 4, none⟩ (.slice none 0 0)) W.heap.size 24 [.int .i64 0, .slice none 0 0] := by
  have hb := Blk.lt h.blk
  have h1 : RLn (W.alloc (.cells #[.int .i64 0, .slice none 0 0] 24)) rb m a p q Bv r := h.later ((Below.refl _ _).alloc (Nat.le_refl _) _)
  refine ⟨h1.put 4 _ rfl (Own.nil _ _), gr_own (gr_alloc W rb _) _ _, h1.own.grown (only_set _) ?_, ?_⟩
  · rcases hg : Bv.ownBlock with _ | g
    · exact .inl rfl
    · exact .inr (fun e => by have := (h1.own.block g hg).1; injection e with e; simp at e; omega)
  · exact (Below.heap_setCell _ ⟨rb, 4, none⟩ _ W.heap.size (by show W.heap.size ≠ rb; omega)).trans (blk_new W _ _)
theorem rwhole_none (rb : Nat) (m a : Int) (p q : Bool) (M : Nat) (Bv : Value) (r : RSt) (W : World) (h : RLn W rb m a p q Bv r) (hz : r.raw.length = 0) :
    Calls Tryd.prog 47 #[.pointer (some ⟨rb, 0, none⟩)] W fun e w' => WhR W w' rb m a p q M r e := by
  have hb := Blk.lt h.blk
  obtain ⟨W1, hW1⟩ : ∃ W1, W.alloc (.cells #[.int .i64 0, .slice none 0 0] 24) = W1 := ⟨_, rfl⟩
  have b1 : Below W.heap.size W W1 := by rw [← hW1]; exact (Below.refl _ _).alloc (Nat.le_refl _) _
  obtain ⟨x1, x2, x3, x4⟩ := wh_start h
  rw [hW1] at x1 x2 x3 x4
  obtain ⟨y1, y2⟩ := wh_fin x1 x2 hb
  have e1 : rwhS M p q r = rclr r := by unfold rwhS; rw [if_pos hz]
  have e2 : rwhB M p q r = false := by unfold rwhB; rw [if_pos (.inl hz)]
  have FIN : Hid (WhR W ((((W1.setCell ⟨rb, 4, none⟩ (.slice none 0 0)).setCell ⟨W.heap.size, 0, none⟩ (.int .i64 0)).setCell ⟨W.heap.size, 1, none⟩ (.slice none 0 0))) rb m a p q M r (.returned (.tuple #[.agg #[.int .i64 0, .slice none 0 0], .bool false]))) := by
    refine ⟨0, none, 0, 0, by rw [e2], by rw [e1]; exact y1, (fun e => by rw [e2] at e; cases e), y2⟩
  have h1 := h.later b1
  have c4 : W1.cell? ⟨rb, 4, none⟩ = some Bv := h1.blk.cell 4
  have f4 := h1.blk.frozen 4
  have z0 := x4.cell 0
  have z1 := x4.cell 1
  have zf0 := x4.frozen 0
  have zf1 := x4.frozen 1
  have k4 := (x4.set_ 0 (.int .i64 0)).set_ 1 (.slice none 0 0)
  have v0 := k4.cell 0
  have v1 := k4.cell 1
  obtain ⟨A, n, c, rfl⟩ : ∃ A n c, Bv = .slice A n c := by
    rcases h.own.form with ⟨e, _⟩ | ⟨g, cap, e, _⟩
    · exact ⟨_, _, _, e⟩
    · exact ⟨_, _, _, e⟩
  have hn : n = 0 := by have := h.own.lenF.1; omega
  subst hn
  have HW := Lib.hid hW1
  clear h h1 x1 x2 x3 x4 y1 y2 k4 b1 hW1 e1 e2 hz
  go_enter Tryd.func47, Tryd.ntmps47
  go_upto_region 1 with (fail)
  rw [HW.out]
  go_wp2
  exact bodyPost_ret (v := .tuple #[.agg #[.int .i64 0, .slice none 0 0], .bool false]) (by simp [results, Tryd.results47, go_sem, v0, v1]) rfl FIN.out
theorem rwhole_abort (rb : Nat) (m a : Int) (p q : Bool) (M : Nat) (Bv : Value) (r : RSt) (W : World) (h : RLn W rb m a p q Bv r) (hz : r.raw.length ≠ 0) (hl : r.raw.getLast? = some 125) (hm : r.raw.length ≤ 70368744177664) :
    Calls Tryd.prog 47 #[.pointer (some ⟨rb, 0, none⟩)] W fun e w' => WhR W w' rb m a p q M r e := by
  have hb := Blk.lt h.blk
  obtain ⟨W1, hW1⟩ : ∃ W1, W.alloc (.cells #[.int .i64 0, .slice none 0 0] 24) = W1 := ⟨_, rfl⟩
  have b1 : Below W.heap.size W W1 := by rw [← hW1]; exact (Below.refl _ _).alloc (Nat.le_refl _) _
  obtain ⟨x1, x2, x3, x4⟩ := wh_start h
  rw [hW1] at x1 x2 x3 x4
  have e1 : rwhS M p q r = { rclr r with ab := inc r.ab } := by unfold rwhS; rw [if_neg hz, if_pos hl]
  have e2 : rwhB M p q r = false := by unfold rwhB; rw [if_pos (.inr (.inl hl))]
  obtain ⟨y1, y2⟩ := wh_fin (x1.put (r' := { rclr r with ab := inc r.ab }) 9 (.int .i64 (wrap64 (r.ab + 1))) rfl (Own.nil _ _)) (gr_own x2 9 _) hb
  have FIN : Hid (WhR W (((((W1.setCell ⟨rb, 4, none⟩ (.slice none 0 0)).setCell ⟨rb, 9, none⟩ (.int .i64 (wrap64 (r.ab + 1)))).setCell ⟨W.heap.size, 0, none⟩ (.int .i64 0)).setCell ⟨W.heap.size, 1, none⟩ (.slice none 0 0))) rb m a p q M r (.returned (.tuple #[.agg #[.int .i64 0, .slice none 0 0], .bool false]))) := by
    refine ⟨0, none, 0, 0, by rw [e2], by rw [e1]; exact y1, (fun e => by rw [e2] at e; cases e), y2⟩
  have h1 := h.later b1
  have c4 : W1.cell? ⟨rb, 4, none⟩ = some Bv := h1.blk.cell 4
  have f4 := h1.blk.frozen 4
  have c9 : (W1.setCell ⟨rb, 4, none⟩ (.slice none 0 0)).cell? ⟨rb, 9, none⟩ = some (.int .i64 r.ab) := x1.blk.cell 9
  have f9 := x1.blk.frozen 9
  have xx4 : Blk ((W1.setCell ⟨rb, 4, none⟩ (.slice none 0 0)).setCell ⟨rb, 9, none⟩ (.int .i64 (wrap64 (r.ab + 1)))) W.heap.size 24 [.int .i64 0, .slice none 0 0] := (Below.heap_setCell _ ⟨rb, 9, none⟩ _ W.heap.size (by show W.heap.size ≠ rb; omega)).trans x4
  have z0 := xx4.cell 0
  have z1 := xx4.cell 1
  have zf0 := xx4.frozen 0
  have zf1 := xx4.frozen 1
  have k4 := (xx4.set_ 0 (.int .i64 0)).set_ 1 (.slice none 0 0)
  have v0 := k4.cell 0
  have v1 := k4.cell 1
  obtain ⟨g, cap, rfl, hg1, hg2, hg3⟩ : ∃ g cap, Bv = .slice (some ⟨g, 0, none⟩) r.raw.length cap ∧ rb + 1 ≤ g ∧ g < W.heap.size ∧ r.raw.length ≤ cap := by
    rcases h.own.form with ⟨_, e⟩ | h
    · exact absurd (by rw [e]; rfl) hz
    · exact h
  have last : byteAt r.raw (r.raw.length - 1) = 125 := by
    rw [byteAt_eq _ _ (by omega)]
    have : r.raw[r.raw.length - 1]'(by omega) = 125 := by
      rw [List.getLast?_eq_getElem?, List.getElem?_eq_getElem (by omega)] at hl
      injection hl
    rw [this]; rfl
  obtain ⟨n, hn⟩ : ∃ n, n = r.raw.length := ⟨_, rfl⟩
  have cl := x3.cell rfl (r.raw.length - 1) (by omega)
  rw [last] at cl
  rw [← hn] at cl c4 hz
  have n0 : ((n : Int) == 0) = false := by simp; omega
  have n1 : ((n : Int) - 1) = ((n - 1 : Nat) : Int) := by omega
  have n2 : n - 1 < n := by omega
  have n3 : (n : Int) ≤ 70368744177664 := by omega
  have n4 : (1 : Int) ≤ (n : Int) := by omega
  have n5 : ((n : Int) - 1).toNat = n - 1 := by omega
  have HW := Lib.hid hW1
  clear h h1 x1 x2 x3 x4 xx4 y1 y2 k4 b1 hW1 e1 e2 hl last hn hm
  go_enter Tryd.func47, Tryd.ntmps47
  go_upto_region 1 with (fail)
  rw [HW.out]
  go_wp2
  exact bodyPost_ret (v := .tuple #[.agg #[.int .i64 0, .slice none 0 0], .bool false]) (by simp [results, Tryd.results47, go_sem, v0, v1]) rfl FIN.out
end Go.Proofs.YtmdlpbgelgeiaaaDoor
