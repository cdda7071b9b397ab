/-
  Ipv6cpAsks: the walk of the law.
-/
import Derived.Test.YtciijnhagdfpiaaI6RNak
import Derived.Test.YtciijnhagdfpiaaI6NakW
import Derived.Test.YtciijnhagdfpiaaI6Known
import Derived.Test.YtciijnhagdfpiaaOpLArg
import Derived.Stop.BytesEq
namespace Go.Proofs.Ytciijnhagdfpiaa
open Go.RowKit
set_option maxRecDepth 100000
set_option maxHeartbeats 4000000
set_option linter.unusedSimpArgs false
set_option linter.unusedVariables false

theorem u8_size6 (w : World) : (Go.sizeOf 5).run Try.prog w = .ok 1 w := by kernel_rfl
def addrB (x : Int) : List UInt8 := [254, 128, 0, 0, 0, 0, 0, 0] ++ putB x.toNat 8
theorem addrB_cells (x : Int) : (addrB x).map cellOf = addrC x := by
  unfold addrB addrC addrH
  rw [List.map_append]
  rfl
theorem addr_same (x : Int) (W : World) : (Op.equalIn 10000 47 (.agg (addrC x).toArray) (.agg (addrC x).toArray)).run Try.prog W = .ok true W := by
  rw [← addrB_cells]
  have hl : (addrB x).length = 16 := by simp [addrB, putB_length]
  have h : (Op.equalIn 10000 47 (.agg ((addrB x).map cellOf).toArray) (.agg ((addrB x).map cellOf).toArray)).run Try.prog W = .ok (addrB x == addrB x) W := run_equalIn_bytes (P := Try.prog) W 9998 47 5 16 Try.underlying47 Try.underlying5 u8_size6 (addrB x) (addrB x) hl hl
  rw [h]
  simp
theorem ipv6cpasks_walk (id : Int) (A : Option Addr) (n c : Nat) (s : List Opt) (draw other : Int) (w : World) (hi : In64 id) (hr : OptRd w w.heap.size A n s) (hn : n ≤ 4398046511103) (hd : In64 draw) (ho : In64 other) :
    Calls Try.prog 5 #[.int .u64 id, .slice A n c, .int .u64 draw, .int .u64 other] w fun e w' => e = .returned (.bool true) ∧ Below w.heap.size w w' := by
  have HK := Lib.hid (nak6_any id draw A n c w.heap.size s w hr (Nat.le_refl _) (by omega) hd)
  have HR := Lib.hid hr
  have HD := Lib.hid hd
  have HI := Lib.hid hi
  have GO := giv_ok other hd
  have AS := Lib.hid (fun W => addr_same id W)
  obtain ⟨g, hg⟩ : ∃ g, giv draw other = g := ⟨_, rfl⟩
  have HGI := Lib.hid (fun W => given_any draw other W hd)
  have HGR := Lib.hid (fun W => rgiven_any draw other W hd)
  rw [hg] at GO HGI HGR
  have f0 : (g == 0) = false := by simpa using GO.1
  have f1 : (g == other) = false := by simpa using GO.2
  obtain ⟨k1, hk1⟩ : ∃ k1, (nk6 id draw s).1 = k1 := ⟨_, rfl⟩
  obtain ⟨k2, hk2⟩ : ∃ k2, (nk6 id draw s).2 = k2 := ⟨_, rfl⟩
  have HRK := Lib.hid (fun W hB => rnak6_any id draw A n c w.heap.size s W (hr.below (C := w.heap.size) (w' := W) hB (Nat.le_refl _)) hB.size hn hd)
  have HJ := Lib.hid (fun W hB => reject6_any id A n c w.heap.size s W (hr.below (C := w.heap.size) (w' := W) hB (Nat.le_refl _)) hB.size hn)
  have HRJ := Lib.hid (fun W hB => rreject6_any id A n c w.heap.size s W (hr.below (C := w.heap.size) (w' := W) hB (Nat.le_refl _)) hn)
  rw [hk1, hk2] at HK HRK
  obtain ⟨j1, hj1⟩ : ∃ j1, (rj6 id s).1 = j1 := ⟨_, rfl⟩
  obtain ⟨j2, hj2⟩ : ∃ j2, (rj6 id s).2 = j2 := ⟨_, rfl⟩
  rw [hj1, hj2] at HJ HRJ
  obtain ⟨dn, hdn⟩ : ∃ dn, dnE id other = dn := ⟨_, rfl⟩
  have HDO := Lib.hid (fun W => done_any id other W)
  have HDR := Lib.hid (fun W => rdone_any id other W)
  rw [hdn] at HDO HDR
  have HAD := Lib.hid (fun W => address_any id W hi.1 hi.2)
  have HAR := Lib.hid (fun W => raddress_any id W hi.1 hi.2)
  obtain ⟨cs, hcs⟩ : ∃ cs, (addrC id).toArray = cs := ⟨_, rfl⟩
  rw [hcs] at HAD HAR AS
  have KN := Lib.hid (fun V => known17_any V)
  clear hr hd hi ho GO hg hk1 hk2 hj1 hj2 hdn hcs
  go_enter Try.func5, Try.ntmps5
  go_wp2_with (first
    | (go_at_call 20; (with_reducible refine HK.out.mono ?_); rintro e w1 ⟨rfl, b1⟩; have B1 := Lib.hid b1; clear b1)
    | (go_at_call 21; (with_reducible refine (HRK.out _ B1.out).mono ?_); rintro e w2 ⟨rfl, b2⟩; have B2 := Lib.hid (B1.out.trans (b2.mono B1.out.size)); clear b2)
    | (go_at_call 22; (with_reducible refine (HJ.out _ B2.out).mono ?_); rintro e w3 ⟨rfl, b3⟩; have B3 := Lib.hid (B2.out.trans (b3.mono B2.out.size)); clear b3)
    | (go_at_call 23; (with_reducible refine (HRJ.out _ B3.out).mono ?_); rintro e w4 ⟨rfl, rfl⟩)
    | (go_at_call 24; (with_reducible refine (HGI.out _).mono ?_); rintro e w5 ⟨rfl, rfl⟩)
    | (go_at_call 25; (with_reducible refine (HGR.out _).mono ?_); rintro e w6 ⟨rfl, rfl⟩)
    | (go_at_call 26; (with_reducible refine (HDO.out _).mono ?_); rintro e w7 ⟨rfl, rfl⟩)
    | (go_at_call 27; (with_reducible refine (HDR.out _).mono ?_); rintro e w8 ⟨rfl, rfl⟩)
    | (go_at_call 28; (with_reducible refine (HAD.out _).mono ?_); rintro e w9 ⟨rfl, b9⟩; have B9 := Lib.hid (B3.out.trans (b9.mono B3.out.size)); clear b9)
    | (go_at_call 29; (with_reducible refine (HAR.out _).mono ?_); rintro e w10 ⟨rfl, b10⟩; have B10 := Lib.hid (B9.out.trans (b10.mono B9.out.size)); have AE := AS.out w10; clear b10)
    | (go_at_call 16; (with_reducible refine (KN.out _).mono ?_); rintro e w11 ⟨rfl, b11⟩; have B11 := Lib.hid (B10.out.trans (b11.mono B10.out.size)); clear b11))
  go_ret
  exact ⟨rfl, B11.out⟩
end Go.Proofs.Ytciijnhagdfpiaa
