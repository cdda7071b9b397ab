/-
  tetherref03.Escape.
-/
import Derived.Test.YtmdlpbgelgeiaaaDoorHdEnc
import Derived.Test.YtmdlpbgelgeiaaaDoorHdRef
namespace Go.Proofs.YtmdlpbgelgeiaaaDoor
open Go.RowKit
set_option maxRecDepth 100000
set_option maxHeartbeats 2000000
set_option linter.unusedSimpArgs false
set_option linter.unusedVariables false

theorem rescape_any (A : Option Addr) (n c : Nat) (l : List UInt8) (a : Int) (w : World) (hr : Rd w w.heap.size A n l) (hn : 2 * n ≤ 140737488355328) :
    Calls Tryd.prog 17 #[.slice A n c, .int .i64 a] w fun e w' => ∃ v, e = .returned (.tuple #[v, .int .i64 (if mapB a = true then 0 else 1)]) ∧ Own w' w.heap.size v (if mapB a = true then escL a l else []) ∧ Below w.heap.size w w' := by
  have MC := Lib.hid (rmap_any a w)
  cases hm : mapB a
  · rw [hm] at MC
    have e1 : (if false = true then (0 : Int) else 1) = 1 := rfl
    have e2 : (if false = true then escL a l else []) = [] := rfl
    rw [e1, e2]
    clear e1 e2 hr
    go_enter Tryd.func17, Tryd.ntmps17
    go_wp2_with (go_at_call 35; refine MC.out.mono ?_; rintro e w' ⟨rfl, rfl⟩)
    go_ret2
    exact ⟨_, rfl, Own.nil _ _, Below.refl _ _⟩
  · rw [hm] at MC
    have hb : 0 ≤ a ∧ a < 4294967296 := by unfold mapB at hm; simp at hm; omega
    obtain ⟨h0, h1⟩ := hb
    have e1 : (if true = true then (0 : Int) else 1) = 0 := rfl
    have e2 : (if true = true then escL a l else []) = escL a l := rfl
    rw [e1, e2]
    have hl := hr.1
    have HR := Lib.hid hr
    have HL := Lib.hid hl
    clear e1 e2 hm hr hl
    go_enter Tryd.func17, Tryd.ntmps17
    go_wp2_with (go_at_call 35; refine MC.out.mono ?_; rintro e w' ⟨rfl, rfl⟩)
    go_loopw [6, 7] (fun u i wr => ∃ (k : Nat), i = .int .i64 k ∧ k ≤ n ∧ Hid (Own wr w.heap.size u (escL a (l.take k))) ∧ Hid (Below w.heap.size w wr)) (fun _ i _ => n - (intOf i).toNat)
    case atStart => exact ⟨0, rfl, Nat.zero_le _, Own.nil _ _, Below.refl _ _⟩
    case round =>
      obtain ⟨k, rfl, hk, HO, HB⟩ := hrel
      by_cases hlt : k < n
      · have hkl : k < l.length := by rw [HL.out]; exact hlt
        obtain ⟨b, o, rfl, hbb, hcell⟩ := HR.out.2 (by omega)
        obtain ⟨cc, hcc⟩ : ∃ cc, cc = l.getD k 0 := ⟨_, rfl⟩
        have ck : wr.cell? ⟨b, o + k, none⟩ = some (.int .u8 (cc.toNat : Int)) := by
          obtain ⟨_, _, e', _, hck⟩ := (HR.out.below HB.out).2 (by omega)
          cases e'
          rw [hcc]; exact hck k hlt
        have hc256 : cc.toNat < 256 := cc.toNat_lt
        have HE := Lib.hid (escL_next a l k hkl)
        have hle := escL_le a (l.take k)
        rw [List.length_take] at hle
        have hOL : (escL a (l.take k)).length + 2 ≤ 140737488355328 := by omega
        have hs := HB.out.size
        have c0 : (0 : Int) ≤ (cc.toNat : Int) := by omega
        have c1 : (cc.toNat : Int) ≤ 255 := by omega
        have hx := Lib.hid (xor32 cc)
        have HCC := Lib.hid hcc
        clear hcell hkl hle hcc
        obtain ⟨T, hT⟩ : ∃ T, decide (kd a cc.toNat ≠ 0) = T := ⟨_, rfl⟩
        go_upto_region 8 with (fail)
        go_cut [39] from 12 to 48 (fun x W => x = .bool T ∧ wr = W)
        case first =>
          unfold kd at hT
          by_cases q1 : cc.toNat = 125
          · have d1 : ((cc.toNat : Int) == 125) = true := by simp; omega
            rw [if_neg (by omega), if_pos q1] at hT
            have HT := Lib.hid hT
            clear hT q1
            go_wp2
            go_meet
            case rel => exact ⟨by rw [← HT.out]; rfl, rfl⟩
          · have d1 : ((cc.toNat : Int) == 125) = false := by simp; omega
            by_cases q2 : cc.toNat = 126
            · have d2 : ((cc.toNat : Int) == 126) = true := by simp; omega
              rw [if_pos q2] at hT
              have HT := Lib.hid hT
              clear hT q1 q2
              go_wp2
              go_meet
              case rel => exact ⟨by rw [← HT.out]; rfl, rfl⟩
            · have d2 : ((cc.toNat : Int) == 126) = false := by simp; omega
              rw [if_neg q2, if_neg q1] at hT
              by_cases q3 : cc.toNat < 32
              · have d3 : decide ((cc.toNat : Int) < 32) = true := by simp; omega
                have d4 := nmd_bit a cc.toNat h0 h1
                have hT' : nmd a cc.toNat = T := by
                  rw [← hT]
                  cases nmd a cc.toNat <;> simp [q3]
                rw [hT'] at d4
                clear hT q1 q2 hT'
                cases T
                all_goals
                  go_wp2
                  go_meet
                  case rel => exact ⟨rfl, rfl⟩
              · have d3 : decide ((cc.toNat : Int) < 32) = false := by simp; omega
                have HT : Hid (T = false) := by show _ = _; rw [← hT]; simp [q3]
                clear hT q1 q2 q3
                go_wp2
                go_meet
                case rel => exact ⟨by rw [HT.out], rfl⟩
        case rest =>
          obtain ⟨rfl, rfl⟩ := hcut
          cases T
          · have hz0 : kd a cc.toNat = 0 := by simpa using hT
            have E : Hid (escL a (l.take k) ++ [cc] = escL a (l.take (k + 1))) := by
              show _ = _
              rw [HE.out, ← HCC.out, escB_plain hz0]
            obtain ⟨v3, w3, r3, o3, g3, b3⟩ := append_run (HO.out.alloc (.cells #[.int .u8 (cc.toNat : Int)] 5)) 1 (rd_one wr cc _ rfl) (by simp) (by omega) (by simp; omega)
            have B3 : Hid (Below w.heap.size w w3) := (HB.out.alloc hs _).grown g3 (by simp; omega) (fun g e => (HO.out.block g e).1)
            rw [E.out] at o3
            have O3 := Lib.hid o3
            have R3 := Lib.hid r3
            clear o3 g3 b3 r3 hz0 hT HO HB
            go_wp2_with (at_builtin; refine wpList_app rfl (.tmp 45) (.tmp 47) rfl _ _ rfl rfl _ _ R3.out ?_)
            go_roundw
            case rel => exact ⟨k + 1, by go_num, by omega, O3.out, B3.out⟩
            case measure => simp [intOf]; omega
          · have hz0 : kd a cc.toNat ≠ 0 := by simpa using hT
            have E : Hid (escL a (l.take k) ++ [125, cc ^^^ 32] = escL a (l.take (k + 1))) := by
              show _ = _
              rw [HE.out, ← HCC.out, escB_not hz0]
            obtain ⟨v3, w3, r3, o3, g3, b3⟩ := append_run (HO.out.alloc (.cells #[.int .u8 125, .int .u8 (bits .xor .u8 (cc.toNat : Int) 32)] 5)) 2 (rd_two wr 125 (cc ^^^ 32) 125 _ rfl hx.out) (by simp) (by omega) (by simp; omega)
            have B3 : Hid (Below w.heap.size w w3) := (HB.out.alloc hs _).grown g3 (by simp; omega) (fun g e => (HO.out.block g e).1)
            rw [E.out] at o3
            have O3 := Lib.hid o3
            have R3 := Lib.hid r3
            clear o3 g3 b3 r3 hz0 hT HO HB
            go_wp2_with (at_builtin; refine wpList_app rfl (.tmp 40) (.tmp 43) rfl _ _ rfl rfl _ _ R3.out ?_)
            go_roundw
            case rel => exact ⟨k + 1, by go_num, by omega, O3.out, B3.out⟩
            case measure => simp [intOf]; omega
      · obtain rfl : k = n := by omega
        have HO2 := HO.out
        rw [List.take_of_length_le (by rw [HL.out]; omega)] at HO2
        replace HO2 := Lib.hid HO2
        go_wp2
        go_ret2
        exact ⟨_, rfl, HO2.out, HB.out⟩
end Go.Proofs.YtmdlpbgelgeiaaaDoor
