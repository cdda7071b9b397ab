/-
  hdlc.escapeOn: bytes as they go over the line, behind others.
-/
import Derived.Test.YtmdlpbgelgeiaaaDoorHdKinds
import Derived.Test.YtmdlpbgelgeiaaaDoorOne
import Derived.Test.YtmdlpbgelgeiaaaDoorHexR
namespace Go.Proofs.YtmdlpbgelgeiaaaDoor
open Go.RowKit
set_option maxRecDepth 100000
set_option maxHeartbeats 2000000
set_option linter.unusedSimpArgs false
set_option linter.unusedVariables false

def kdV (z : Int) : Value := .int .u8 z
theorem escapeOn_any (a : Int) (h0 : 0 ≤ a) (h1 : a < 4294967296) (v : Value) (base : Nat) (p : List UInt8) (A : Option Addr) (n c B : Nat) (l : List UInt8) (w : World) (ho : Own w base v p) (hb : base ≤ w.heap.size) (hr : Rd w B A n l) (hB : B ≤ base) (hn : p.length + 2 * n ≤ 140737488355328) :
    Calls Tryd.prog 36 #[v, .slice A n c, .int .i64 a] w fun e w' => ∃ v', e = .returned v' ∧ Own w' base v' (p ++ escL a l) ∧ w.grownBy w' v.ownBlock ∧ (∀ g, v'.ownBlock = some g → v.ownBlock = some g ∨ w.heap.size ≤ g) := by
  have hz : ∀ w : World, (zeroValue 79).run Tryd.prog w = .ok (.agg (kdK a 0).toArray) w := fun w => by rw [kdK_zero]; exact zero256 w
  have hl := hr.1
  have KC := Lib.hid (kindsOf_any a h0 h1 w)
  obtain ⟨vs, hvs⟩ : ∃ vs, vs = kdL a := ⟨_, rfl⟩
  have hlen : vs.length = 256 := by rw [hvs, kdL_length]
  have HVS := Lib.hid hvs
  rw [← hvs] at KC
  have HO := Lib.hid ho
  have HR := Lib.hid hr
  have HL := Lib.hid hl
  have hvb := ho.block
  have HVB := Lib.hid hvb
  obtain ⟨vb, hvbe⟩ : ∃ vb, vb = v.ownBlock := ⟨_, rfl⟩
  have HVE := Lib.hid hvbe
  clear hvs ho hr hl hvb hvbe
  go_enter Tryd.func36, Tryd.ntmps36
  go_wp2_with fail
  refine (KC.out).mono ?_
  rintro e w1 ⟨rfl, hB1⟩
  obtain ⟨W3, hst, hb3, hg3⟩ := store_row (blk_new w1 79 (kdK a 0)) (show vs.length = _ by rw [hlen, kdK_length]) (by rw [HVS.out]; exact kdL_one a)
  have HB3 := Lib.hid hb3
  have s1 := hB1.size
  have G13 : w1.grownBy W3 none := only_then (only_alloc (World.grownBy.refl w1 none) (.cells (kdK a 0).toArray 79)) hg3 (fun g e => by cases e; exact .inr (Nat.le_refl _))
  have GG : w.grownBy W3 none := only_then (only_of_below hB1 none) G13 (fun g e => by cases e)
  have s3 : w1.heap.size < W3.heap.size := Blk.lt hb3
  have HGG := Lib.hid GG
  have H1 := Lib.hid hB1
  clear hB1 hb3 hg3 G13 GG
  go_wp2
  go_loopw [0, 14] (fun u i wr => ∃ (k : Nat), i = .int .i64 k ∧ k ≤ n ∧ Own wr base u (p ++ escL a (l.take k)) ∧ Blk wr w1.heap.size 79 vs ∧ w.grownBy wr v.ownBlock ∧ (∀ g, u.ownBlock = some g → v.ownBlock = some g ∨ W3.heap.size ≤ g) ∧ W3.heap.size ≤ wr.heap.size) (fun _ i _ => n - (intOf i).toNat)
  case atStart =>
    refine ⟨0, rfl, Nat.zero_le _, ?_, HB3.out, ⟨HGG.out.os, HGG.out.tape, HGG.out.output, HGG.out.size, fun i hi _ => HGG.out.block i hi (by simp)⟩, fun g hg => .inl hg, Nat.le_refl _⟩
    have h : p ++ escL a (l.take 0) = p := by rw [List.take_zero]; exact List.append_nil p
    rw [h]
    exact HO.out.grown HGG.out (by rcases hv : v.ownBlock with _ | g <;> simp)
  case round =>
    obtain ⟨k, rfl, hk, ho, hK, hG, hU, hS⟩ := hrel
    by_cases hlt : k < n
    · have hkl : k < l.length := by rw [HL.out]; exact hlt
      obtain ⟨b, o, rfl, hbb, hcell⟩ := HR.out.2 (by omega)
      have hsz := hG.size
      have hrk : Rd wr B (some ⟨b, o, none⟩) n l := HR.out.grown hG (by omega) (fun g e => by have := (HVB.out g e).1; omega)
      obtain ⟨_, _, e', _, hck⟩ := hrk.2 (by omega)
      cases e'
      obtain ⟨cc, hcc⟩ : ∃ cc, cc = l.getD k 0 := ⟨_, rfl⟩
      have ck : wr.cell? ⟨b, o + k, none⟩ = some (.int .u8 (cc.toNat : Int)) := by rw [hcc]; exact hck k hlt
      have hc256 : cc.toNat < 256 := cc.toNat_lt
      have kk : wr.cell? ⟨w1.heap.size, cc.toNat, none⟩ = some (.int .u8 (kd a cc.toNat : Nat)) := by rw [hK.cell, HVS.out]; exact kdL_get a _ hc256
      have HE := Lib.hid (escL_next a l k hkl)
      have hle := escL_le a (l.take k)
      rw [List.length_take] at hle
      have hOL : (p ++ escL a (l.take k)).length + 2 ≤ 140737488355328 := by rw [List.length_append]; omega
      have hub := ho.block
      have hbw : base ≤ wr.heap.size := by omega
      have c0 : (0 : Int) ≤ (cc.toNat : Int) := by omega
      have c1 : (cc.toNat : Int) ≤ 255 := by omega
      have hx := xor32 cc
      clear hcell hck hrk hkl hle
      by_cases hz0 : kd a cc.toNat = 0
      · have E : Hid (p ++ escL a (l.take k) ++ [cc] = p ++ escL a (l.take (k + 1))) := by
          show _ = _
          rw [HE.out, ← hcc, escB_plain hz0, List.append_assoc]
        rw [hz0] at kk
        obtain ⟨v3, w3, r3, o3, g3, b3⟩ := append_run (ho.alloc (.cells #[.int .u8 (cc.toNat : Int)] 5)) 1 (rd_one wr cc _ rfl) (by simp) (by omega) (by simp; omega)
        have G3 : Hid (w.grownBy w3 v.ownBlock) := only_then hG (only_then (only_alloc (World.grownBy.refl wr u0.ownBlock) _) g3 (fun g e => .inl e)) (fun g e => (hU g e).imp id (fun h => by omega))
        have K3 : Hid (Blk w3 w1.heap.size 79 vs) := by
          show Blk _ _ _ _
          refine (g3.block _ (by simp; omega) (fun e => ?_)).trans ((Below.heap_alloc _ _ _ (by omega)).trans hK)
          have := (hub _ e.symm)
          rcases hU _ e.symm with h | h
          · have := (HVB.out _ h).2; omega
          · omega
        have U3 : Hid (∀ g, v3.ownBlock = some g → v.ownBlock = some g ∨ W3.heap.size ≤ g) := by
          show ∀ g, _
          intro g hg
          rcases b3 with e | e
          · exact hU g (by rw [← e]; exact hg)
          · rw [e] at hg; injection hg with hg; simp at hg; exact .inr (by omega)
        rw [E.out] at o3
        have O3 := Lib.hid o3
        have S3 : W3.heap.size ≤ w3.heap.size := by have := g3.size; simp at this; omega
        have R3 := Lib.hid r3
        clear ho hK hG hU o3 g3 b3 hub r3 hz0 hcc hOL
        go_wp2_with (at_builtin; refine wpList_app rfl (.tmp 22) (.tmp 24) rfl _ _ rfl rfl _ _ R3.out ?_)
        go_roundw
        case rel => exact ⟨k + 1, by go_num, by omega, O3.out, K3.out, G3.out, U3.out, S3⟩
        case measure => simp [intOf]; omega
      · have E : Hid (p ++ escL a (l.take k) ++ [125, cc ^^^ 32] = p ++ escL a (l.take (k + 1))) := by
          show _ = _
          rw [HE.out, ← hcc, escB_not hz0, List.append_assoc]
        obtain ⟨z, hzz⟩ : ∃ z : Int, z = (kd a cc.toNat : Nat) := ⟨_, rfl⟩
        rw [← hzz] at kk
        have kne : (z == 0) = false := by simp; omega
        clear hzz
        obtain ⟨v3, w3, r3, o3, g3, b3⟩ := append_run (ho.alloc (.cells #[.int .u8 125, .int .u8 (bits .xor .u8 (cc.toNat : Int) 32)] 5)) 2 (rd_two wr 125 (cc ^^^ 32) 125 _ rfl hx) (by simp) (by omega) (by simp; omega)
        have G3 : Hid (w.grownBy w3 v.ownBlock) := only_then hG (only_then (only_alloc (World.grownBy.refl wr u0.ownBlock) _) g3 (fun g e => .inl e)) (fun g e => (hU g e).imp id (fun h => by omega))
        have K3 : Hid (Blk w3 w1.heap.size 79 vs) := by
          show Blk _ _ _ _
          refine (g3.block _ (by simp; omega) (fun e => ?_)).trans ((Below.heap_alloc _ _ _ (by omega)).trans hK)
          have := (hub _ e.symm)
          rcases hU _ e.symm with h | h
          · have := (HVB.out _ h).2; omega
          · omega
        have U3 : Hid (∀ g, v3.ownBlock = some g → v.ownBlock = some g ∨ W3.heap.size ≤ g) := by
          show ∀ g, _
          intro g hg
          rcases b3 with e | e
          · exact hU g (by rw [← e]; exact hg)
          · rw [e] at hg; injection hg with hg; simp at hg; exact .inr (by omega)
        rw [E.out] at o3
        have O3 := Lib.hid o3
        have S3 : W3.heap.size ≤ w3.heap.size := by have := g3.size; simp at this; omega
        have R3 := Lib.hid r3
        clear hx ho hK hG hU o3 g3 b3 hub r3 hz0 hcc hOL
        go_wp2_with (at_builtin; refine wpList_app rfl (.tmp 26) (.tmp 29) rfl _ _ rfl rfl _ _ R3.out ?_)
        go_roundw
        case rel => exact ⟨k + 1, by go_num, by omega, O3.out, K3.out, G3.out, U3.out, S3⟩
        case measure => simp [intOf]; omega
    · obtain rfl : k = n := by omega
      have O3 := Lib.hid ho
      have G3 := Lib.hid hG
      have U3 : Hid (∀ g, u0.ownBlock = some g → v.ownBlock = some g ∨ w.heap.size ≤ g) := by
        show ∀ g, _
        intro g hg
        exact (hU g hg).imp id (fun h => by have := H1.out.size; omega)
      clear ho hK hG hU
      go_wp2
      go_ret
      refine ⟨_, rfl, ?_, G3.out, U3.out⟩
      have := O3.out
      rw [List.take_of_length_le (by rw [HL.out]; omega)] at this
      exact this
end Go.Proofs.YtmdlpbgelgeiaaaDoor
