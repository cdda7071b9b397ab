/-
  md5.Response: the digest of identifier, word and challenge.
-/
import Derived.Test.YtjimoegegigoiaaDoorMdAppStr
import Derived.Test.YtjimoegegigoiaaDoorMdAw0
namespace Go.Proofs.YtjimoegegigoiaaDoor
open Go.RowKit
set_option maxRecDepth 100000
set_option maxHeartbeats 1000000
set_option linter.unusedSimpArgs false
set_option linter.unusedVariables false

theorem resp_ok (id : Int) (x : ByteArray) (A : Option Addr) (n c B : Nat) (l : List UInt8) (w : World) (h0 : 0 ≤ id) (h1 : id ≤ 255) (hr : Rd w B A n l) (hB : B ≤ w.heap.size) (hnil : A = none → c = 0) (hm : n ≤ 35184372088832) (hx : x.size ≤ 35184372088832) (hK : TabK w) (hS : TabS w) :
    Calls Tryd.prog 25 #[.int .i64 id, .string x, .slice A n c] w fun e w' => e = .returned (.tuple #[.agg (partB (mdOver (mdPad (respL id x l)) ((mdPad (respL id x l)).length / 64)) 16).toArray, .int .i64 0]) ∧ Below w.heap.size w w' := by
  have hl := hr.1
  obtain ⟨V, hV⟩ : ∃ V, V = mdOver (mdPad (respL id x l)) ((mdPad (respL id x l)).length / 64) := ⟨_, rfl⟩
  have HV := Lib.hid hV
  rw [← hV]
  clear hV
  obtain ⟨W1, hW1⟩ : ∃ W1, W1 = w.alloc (.cells (zeros 16).toArray 55) := ⟨_, rfl⟩
  have s1 : W1.heap.size = w.heap.size + 1 := by rw [hW1, World.size_alloc]
  have z1 : Blk W1 w.heap.size 55 (zeros 16) := by rw [hW1]; exact blk_new w _ _
  have BW1 : Below w.heap.size w W1 := by rw [hW1]; exact (Below.refl _ _).alloc (Nat.le_refl _) _
  have hid8 : IntKind.u8.wrap id = id := by rw [IntKind.wrap_u8']; omega
  obtain ⟨v2, w2, r2, o2, g2⟩ := append_str (own_one W1 W1.heap.size (UInt8.ofNat id.toNat) id (by simp; omega) (Nat.le_refl _)) x (by simp; omega) (by simp)
  have B2 : Below W1.heap.size W1 w2 := ((Below.refl _ _).alloc (Nat.le_refl _) _).grown g2 (by simp) (by simp [Value.ownBlock])
  have hr2 : Rd w2 B A n l := (hr.later hB (BW1.trans (B2.mono (by omega))))
  have hsx : x.data.toList.length = x.size := Array.length_toList
  obtain ⟨v3, w3, r3, o3, g3, b3⟩ := append_run o2 c hr2 hnil (by simp [hsx]; omega) (by have := B2.size; omega)
  have B3 : Below W1.heap.size W1 w3 := B2.grown g3 B2.size (fun k hk => (o2.block k hk).1)
  have z3 : Blk w3 w.heap.size 55 (zeros 16) := (B3.block _ (by omega)).trans z1
  have BB3 : Below w.heap.size w w3 := BW1.trans (B3.mono (by omega))
  have e3 : ([UInt8.ofNat id.toNat] ++ x.data.toList ++ l) = respL id x l := rfl
  rw [e3] at o3
  have hlen : (respL id x l).length = 1 + x.size + n := by unfold respL; rw [List.length_append, List.length_append, hsx, hl]; rfl
  obtain ⟨g, cap, rfl, hg, hgl, hcap⟩ : ∃ g cap, _ := by
    rcases o3.form with ⟨e, hh⟩ | h
    · rw [hh] at hlen; simp at hlen; omega
    · exact h
  have hrd := o3.rd rfl (respL id x l).length (Nat.le_refl _)
  rw [List.take_length] at hrd
  have SA := Lib.hid (sum_any (some ⟨g, 0, none⟩) _ cap w3.heap.size (respL id x l) w3 hrd (Nat.le_refl _) hcap (fun h => nomatch h) (by omega) (hK.kept BB3) (hS.kept BB3))
  rw [← HV.out] at SA
  obtain ⟨N, hN⟩ : ∃ N, N = (respL id x l).length := ⟨_, rfl⟩
  rw [← hN] at SA r3 hcap
  have HN := Lib.hid hN
  have Z3 := Lib.hid z3
  have HB3 := Lib.hid BB3
  have R2 := Lib.hid r2
  have R3 := Lib.hid r3
  rw [hW1] at R2
  rw [World.size_alloc] at R2
  clear r2 r3 z3 BB3 hrd g2 g3 b3 o2 o3 B2 B3 hr2 hr z1 BW1 hlen hsx hl e3 hN s1
  clear hW1
  go_enter Tryd.func25, Tryd.ntmps25
  go_wp2_with (first
    | (at_builtin; refine wpList_appT rfl (.tmp 18) (.tmp 19) #[22, 9] rfl _ _ rfl rfl _ _ R2.out ?_)
    | (at_builtin; refine wpList_appT rfl (.tmp 21) (.tmp 22) #[22, 22] rfl _ _ rfl rfl _ _ R3.out ?_)
    | (go_at_call 53; refine SA.out.mono ?_; rintro e w4 ⟨rfl, hb4⟩; obtain ⟨W6, hst, hbk, hgw⟩ := store_all2 (show Blk w4 w.heap.size 55 (zeros 16) from (hb4.block w.heap.size (by have := Blk.lt Z3.out; omega)).trans Z3.out) (show (partB V 16).length = _ by simp [partB, zeros]) (partB_one V 16)))
  have hs3 := HB3.out.size
  have hs4 := hb4.size
  have BF : Below w.heap.size w W6 := (HB3.out.trans (hb4.mono hs3)).grown hgw (by omega) (fun k e => by cases e; omega)
  exact bodyPost_ret (results_row_tmp rfl _ _ w.heap.size 55 _ (0, 0) _ rfl hbk Tryd.underlying55 rfl info16) rfl ⟨rfl, BF⟩
theorem resp_bad (id : Int) (x : ByteArray) (A : Option Addr) (n c : Nat) (w : World) (h : id < 0 ∨ 255 < id) (hlo : -9223372036854775808 ≤ id) (hhi : id ≤ 9223372036854775807) :
    Calls Tryd.prog 25 #[.int .i64 id, .string x, .slice A n c] w fun e w' => e = .returned (.tuple #[.agg (zeros 16).toArray, .int .i64 1]) ∧ Below w.heap.size w w' := by
  have BF : Below w.heap.size w (w.alloc (.cells (zeros 16).toArray 55)) := (Below.refl _ _).alloc (Nat.le_refl _) _
  by_cases hn : id < 0
  · clear h
    go_enter Tryd.func25, Tryd.ntmps25
    go_wp2
    exact bodyPost_ret (results_row_tmp rfl _ _ w.heap.size 55 _ (0, 0) _ rfl (blk_new w 55 (zeros 16)) Tryd.underlying55 rfl info16) rfl ⟨rfl, BF⟩
  · have hp : 255 < id := by omega
    clear h
    go_enter Tryd.func25, Tryd.ntmps25
    go_wp2
    exact bodyPost_ret (results_row_tmp rfl _ _ w.heap.size 55 _ (0, 0) _ rfl (blk_new w 55 (zeros 16)) Tryd.underlying55 rfl info16) rfl ⟨rfl, BF⟩
end Go.Proofs.YtjimoegegigoiaaDoor
