/- The law ForestNobody: its walk. No condition. -/
import Derived.Test.YtlcnnnljdffbmaaForestLives
namespace Go.Proofs.Ytlcnnnljdffbmaa
open Go.RowKit Go.Maps

set_option maxHeartbeats 8000000 in
set_option maxRecDepth 100000 in
theorem forestNobody_any (kc kw kv lv nx n : Int) (lo hi : ByteArray) (la : Bool) (ak av ac : Option Addr) (nk ck nv cv nc cc : Nat) (w : World) (hn : (Lit.int .i64 n).wf = true) :
    Calls Try.prog 5 #[.agg #[.int .i64 kc, .int .u64 kw, .int .u64 kv, .int .i64 lv, .string lo, .string hi, .bool la, .int .i64 nx, .slice ak nk ck, .slice av nv cv, .slice ac nc cc], .int .i64 n] w fun e w' => e = .returned (.bool true) ∧ Below w.heap.size w w' := by
  have hx0 := boxed_below w (.cells #[.int .i64 kc, .int .u64 kw, .int .u64 kv, .int .i64 lv, .string lo, .string hi, .bool la, .int .i64 nx, .slice ak nk ck, .slice av nv cv, .slice ac nc cc] 52)
  have n0 := BX.new w 52 #[.int .i64 kc, .int .u64 kw, .int .u64 kv, .int .i64 lv, .string lo, .string hi, .bool la, .int .i64 nx, .slice ak nk ck, .slice av nv cv, .slice ac nc cc]
  obtain ⟨W0, hW0⟩ : ∃ W, W = w.alloc (.cells #[.int .i64 kc, .int .u64 kw, .int .u64 kv, .int .i64 lv, .string lo, .string hi, .bool la, .int .i64 nx, .slice ak nk ck, .slice av nv cv, .slice ac nc cc] 52) := ⟨_, rfl⟩
  have hs0 : W0.heap.size = w.heap.size + 1 := by rw [hW0, World.size_alloc]
  rw [← hW0] at hx0 n0
  obtain ⟨W2, hW2, b1, b2, hb2⟩ := bx2 W0 78 42 #[.map none, .slice none 0 0, .int .i64 0, .int .i64 0] #[.pointer none, .pointer (some ⟨W0.heap.size, 0, none⟩)]
  have HW2 := Lib.hid hW2
  have HX := Lib.hid (hx0.trans (hb2.mono hx0.size))
  have HK := Lib.hid (n0.below hb2)
  have HP : Hid (∀ i : Nat, i < 2 → ∃ p, (∀ V, Below W2.heap.size W2 V → V.cell? ⟨W0.heap.size + 1, i, none⟩ = some (.pointer p)) ∧ NotMade W2 (.pointer p)) := Lib.hid (fun i hi => by
    rcases i with _ | _ | i
    · exact ⟨none, fun V hV => (b2.below hV).cell 0 rfl, Or.inl rfl⟩
    · exact ⟨some ⟨W0.heap.size, 0, none⟩, fun V hV => (b2.below hV).cell 1 rfl, Or.inr ⟨_, rfl, b1⟩⟩
    · omega)
  have HL := Lib.hid (fun W => lives14 W)
  have HN := Lib.hid hn
  have HW0 := Lib.hid hW0
  clear hW0 hW2 b1 b2 hb2 hx0 n0 hn hs0
  go_enter Try.func5, Try.ntmps5
  go_upto_region 1 with fail
  rw [← HW0.out]
  go_wp2_with fail
  rw [← HW2.out]
  clear HW0 HW2
  go_loopw [15] (fun s wr => ∃ i : Nat, s = .int .i64 i ∧ i ≤ 2 ∧ Hid (Below W2.heap.size W2 wr)) (fun s _ => 2 - (intOf s).toNat)
  case atStart => exact ⟨0, rfl, by omega, Lib.hid (Below.refl _ _)⟩
  case round =>
      obtain ⟨i, rfl, hi2, HB0⟩ := hrel
      by_cases hlt : i < 2
      · obtain ⟨p, hcell, hnm⟩ := HP.out i hlt
        have hc : wr.cell? ⟨W0.heap.size + 1, i, none⟩ = some (.pointer p) := hcell wr HB0.out
        have HNM := Lib.hid hnm
        have hlt' : (i : Int) < 2 := by omega
        clear hcell hnm
        go_wp2_with fail
        clear hc
        refine (giveUp_no (.pointer p) _ (HNM.out.keep HB0.out)).mono ?_
        rintro e w1 ⟨rfl, h1⟩
        have HB1 := Lib.hid (HB0.out.trans (h1.mono HB0.out.size))
        clear h1 HB0
        go_wp2_with fail
        refine (again_no (.pointer p) _ (HNM.out.keep HB1.out)).mono ?_
        rintro e w2 ⟨rfl, h2⟩
        have HB2 := Lib.hid (HB1.out.trans (h2.mono HB1.out.size))
        clear h2 HB1
        go_wp2_with fail
        refine (at_no (.pointer p) n _ HN.out (HNM.out.keep HB2.out)).mono ?_
        rintro e w3 ⟨rfl, h3⟩
        have HB3 := Lib.hid (HB2.out.trans (h3.mono HB2.out.size))
        clear h3 HB2
        go_upto_region 7 with fail
        have hy4 := boxed_below w3 (.cells #[.int .i64 0, .int .u64 0, .int .u64 0, .int .i64 0, .string ⟨#[]⟩, .string ⟨#[]⟩, .bool false, .int .i64 0, .slice none 0 0, .slice none 0 0, .slice none 0 0] 52)
        obtain ⟨V4, hV4⟩ : ∃ V, V = w3.alloc (.cells #[.int .i64 0, .int .u64 0, .int .u64 0, .int .i64 0, .string ⟨#[]⟩, .string ⟨#[]⟩, .bool false, .int .i64 0, .slice none 0 0, .slice none 0 0, .slice none 0 0] 52) := ⟨_, rfl⟩
        rw [← hV4] at hy4 ⊢
        have HB4 := Lib.hid (HB3.out.trans (hy4.mono HB3.out.size))
        clear hV4 hy4 HB3
        go_wp2_with fail
        refine (take_no (.pointer p) n _ (HNM.out.keep HB4.out)).mono ?_
        rintro e w5 ⟨rfl, h5⟩
        have HB5 := Lib.hid (HB4.out.trans (h5.mono HB4.out.size))
        clear h5 HB4
        go_upto_region 8 with fail
        have hy6 := boxed_below w5 (.cells #[.int .i64 0, .int .u64 0] 59)
        obtain ⟨V6, hV6⟩ : ∃ V, V = w5.alloc (.cells #[.int .i64 0, .int .u64 0] 59) := ⟨_, rfl⟩
        rw [← hV6] at hy6 ⊢
        have HB6 := Lib.hid (HB5.out.trans (hy6.mono HB5.out.size))
        clear hV6 hy6 HB5
        have hk : BX V6 w.heap.size 52 #[.int .i64 kc, .int .u64 kw, .int .u64 kv, .int .i64 lv, .string lo, .string hi, .bool la, .int .i64 nx, .slice ak nk ck, .slice av nv cv, .slice ac nc cc] := HK.out.below HB6.out
        have k0 : V6.cell? ⟨w.heap.size, 0, none⟩ = some (.int .i64 kc) := hk.cell 0 rfl
        have k1 : V6.cell? ⟨w.heap.size, 1, none⟩ = some (.int .u64 kw) := hk.cell 1 rfl
        have k2 : V6.cell? ⟨w.heap.size, 2, none⟩ = some (.int .u64 kv) := hk.cell 2 rfl
        have k3 : V6.cell? ⟨w.heap.size, 3, none⟩ = some (.int .i64 lv) := hk.cell 3 rfl
        have k4 : V6.cell? ⟨w.heap.size, 4, none⟩ = some (.string lo) := hk.cell 4 rfl
        have k5 : V6.cell? ⟨w.heap.size, 5, none⟩ = some (.string hi) := hk.cell 5 rfl
        have k6 : V6.cell? ⟨w.heap.size, 6, none⟩ = some (.bool la) := hk.cell 6 rfl
        have k7 : V6.cell? ⟨w.heap.size, 7, none⟩ = some (.int .i64 nx) := hk.cell 7 rfl
        have k8 : V6.cell? ⟨w.heap.size, 8, none⟩ = some (.slice ak nk ck) := hk.cell 8 rfl
        have k9 : V6.cell? ⟨w.heap.size, 9, none⟩ = some (.slice av nv cv) := hk.cell 9 rfl
        have k10 : V6.cell? ⟨w.heap.size, 10, none⟩ = some (.slice ac nc cc) := hk.cell 10 rfl
        clear hk
        go_wp2_with fail
        refine (learn_no (.pointer p) #[.int .i64 kc, .int .u64 kw, .int .u64 kv, .int .i64 lv, .string lo, .string hi, .bool la, .int .i64 nx, .slice ak nk ck, .slice av nv cv, .slice ac nc cc] _ (HNM.out.keep HB6.out)).mono ?_
        clear k0 k1 k2 k3 k4 k5 k6 k7 k8 k9 k10
        rintro e w7 ⟨rfl, h7⟩
        have HB7 := Lib.hid (HB6.out.trans (h7.mono HB6.out.size))
        clear h7 HB6
        go_wp2_with fail
        refine (spare_no (.pointer p) 0 0 _ (HNM.out.keep HB7.out)).mono ?_
        rintro e w8 ⟨rfl, h8⟩
        have HB8 := Lib.hid (HB7.out.trans (h8.mono HB7.out.size))
        clear h8 HB7
        go_wp2_with fail
        refine (forget_no (.pointer p) n _ HN.out (HNM.out.keep HB8.out)).mono ?_
        rintro e w9 ⟨rfl, h9⟩
        have HB9 := Lib.hid (HB8.out.trans (h9.mono HB8.out.size))
        clear h9 HB8
        go_wp2_with fail
        refine (cells_no (.pointer p) _ (HNM.out.keep HB9.out)).mono ?_
        rintro e w10 ⟨⟨pc, cc2, rfl⟩, h10⟩
        have HB10 := Lib.hid (HB9.out.trans (h10.mono HB9.out.size))
        clear h10 HB9
        go_wp2_with fail
        refine (spares_no (.pointer p) _ (HNM.out.keep HB10.out)).mono ?_
        rintro e w11 ⟨rfl, h11⟩
        rw [← h11]
        clear h11
        go_wp2_with fail
        refine (need_no (.pointer p) _ (HNM.out.keep HB10.out)).mono ?_
        rintro e w12 ⟨rfl, h12⟩
        have HB12 := Lib.hid (HB10.out.trans (h12.mono HB10.out.size))
        clear h12 HB10
        go_wp2
        go_roundw
        case rel => exact ⟨i + 1, by go_num, by omega, HB12⟩
        case measure => simp [intOf]; omega
      · have hi : i = 2 := by omega
        subst hi
        go_wp2_with fail
        refine (HL.out _).mono ?_
        rintro e w1 ⟨rfl, h1⟩
        have HE := Lib.hid (HX.out.trans ((HB0.out.trans (h1.mono HB0.out.size)).mono HX.out.size))
        clear h1
        go_wp2
        go_ret
        exact ⟨rfl, HE.out⟩
end Go.Proofs.Ytlcnnnljdffbmaa
