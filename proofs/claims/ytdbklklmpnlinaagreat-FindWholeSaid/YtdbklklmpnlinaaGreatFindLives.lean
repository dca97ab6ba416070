/- The chapter's example (bowerlaw19.lives). No condition. -/
import Derived.Test.YtdbklklmpnlinaaGreatFindViews
namespace Go.Proofs.YtdbklklmpnlinaaGreat
open Go.RowKit Go.Maps

def eN19 : Nod := ⟨0, -1, ⟨#[]⟩, ⟨#[]⟩, true, [], [], []⟩
def eK19 : Kn := ⟨0, 0, 0, eN19⟩
theorem empty19 (w : World) : Calls Tryz.prog 38 #[] w fun e w' => e = .returned (.agg #[.int .i64 0, .string ⟨#[]⟩, .string ⟨#[]⟩, .bool true, .int .i64 (-1), .slice none 0 0, .slice none 0 0, .slice none 0 0]) ∧ Below w.heap.size w w' := by
  go_enter Tryz.func38, Tryz.ntmps38
  go_wp2
  refine bodyPost_ret (v := .agg #[.int .i64 0, .string ⟨#[]⟩, .string ⟨#[]⟩, .bool true, .int .i64 (-1), .slice none 0 0, .slice none 0 0, .slice none 0 0]) (by simp [results, Tryz.results38, go_sem, *]) rfl ⟨rfl, ?_⟩
  exact (one_alloc w _).2
theorem eK_pv (w : World) : PV w (.slice none 0 0) (.slice none 0 0) (.slice none 0 0) eK19 := ⟨none, none, none, 0, 0, 0, rfl, ⟨Rd.nil _, Rd.nil _, Rd.nil _⟩⟩
theorem eK_row {w W : World} {g : Nat} (h : BX W g 39 #[.int .i64 0, .int .u64 0, .int .u64 0, .int .i64 0, .string ⟨#[]⟩, .string ⟨#[]⟩, .bool true, .int .i64 (-1), .slice none 0 0, .slice none 0 0, .slice none 0 0]) : KsAt (PV w) W (.slice (some ⟨g, 0, none⟩) 1 1) [eK19] := by
  refine ⟨some ⟨g, 0, none⟩, 1, rfl, Nat.le_refl _, by omega, fun _ => ⟨g, 0, rfl, fun j hj => ?_⟩⟩
  have : j = 0 := by simp at hj; exact hj
  subst this
  refine ⟨_, ⟨none, 0, 0, none, 0, 0, none, 0, 0, rfl, eK_pv w⟩, fun i hi => ?_⟩
  show W.cell? ⟨g, 0 + 0 * 11 + i, none⟩ = _
  rw [show 0 + 0 * 11 + i = i by omega]
  rcases i with _ | _ | _ | _ | _ | _ | _ | _ | _ | _ | _ | i
  all_goals first | exact h.cell _ rfl | omega
theorem eK_ok : ∀ kn ∈ [eK19], NodOk kn.n := by
  intro kn h
  rw [List.mem_singleton] at h
  subst h
  refine ⟨by decide, by decide, (fun x hx => by cases hx), by decide, by decide, by decide, by decide, (fun j hj => absurd hj (Nat.not_lt_zero _))⟩
theorem eK_all : learnAll [eK19] = [eK19] := rfl
theorem eK_find : kfind [eK19] 0 = some eK19 := rfl
theorem eK_sound : AllS [eK19] := by
  intro kn h
  rw [List.mem_singleton] at h
  subst h
  refine ⟨by decide, ⟨by decide, (fun _ => ⟨rfl, rfl⟩), (fun h => by cases h)⟩, ⟨by decide, (fun i hi => by simp [eN19, eK19] at hi), (fun i hi => absurd hi (Nat.not_lt_zero _))⟩, (fun _ => ⟨rfl, rfl, (fun i hi => absurd hi (Nat.not_lt_zero _))⟩), (fun h => absurd rfl h)⟩
theorem eK_run0 (k : ByteArray) (n : Nat) : runW 0 k [eK19] (n + 1) ⟨0, -1, []⟩ = .done [eK19] := by
  have ha : astrayF 0 k eK19.n = false := by
    show lss k.data.toList [] = false
    cases k.data.toList <;> rfl
  have ho : onF 0 k eK19.n = true := by
    show (!lss k.data.toList [] && (true || _)) = true
    rw [show lss k.data.toList [] = false from ha]
    rfl
  refine runW_out ?_ (Nat.succ_pos _)
  unfold stepW
  rw [show kfind [eK19] (⟨0, -1, []⟩ : St).c = some eK19 from rfl]
  simp only
  rw [if_neg (by rintro (⟨h1, _⟩ | h1); (exact absurd h1 (by decide)); (rw [ha] at h1; cases h1)), if_neg (by rw [ho]; simp), if_pos (by decide)]
  rfl
theorem eK_run1 (n : Nat) : runW 1 ⟨#[]⟩ [eK19] (n + 1) ⟨0, -1, []⟩ = .lost := by
  refine runW_out ?_ (Nat.succ_pos _)
  unfold stepW
  rw [show kfind [eK19] (⟨0, -1, []⟩ : St).c = some eK19 from rfl]
  simp only
  rw [if_pos (Or.inr (show astrayF 1 ⟨#[]⟩ eK19.n = true from rfl))]
theorem eK_run2 (k : ByteArray) (n : Nat) : runW 2 k [eK19] (n + 1) ⟨0, -1, []⟩ = .done [eK19] := by
  refine runW_out ?_ (Nat.succ_pos _)
  unfold stepW
  rw [show kfind [eK19] (⟨0, -1, []⟩ : St).c = some eK19 from rfl]
  simp only
  rw [if_neg (by rintro (⟨h1, _⟩ | h1); (exact absurd h1 (by decide)); (cases h1)), if_neg (by show ¬ true = false; simp), if_pos (by decide)]
  rfl
theorem KsR.fv2 {w w' : World} {B B2 C A b N : Nat} {sv v : Value} {ks l : List Kn} {ss : List (Int × Int)} {k m : Int} (h : KsR (PO w B) w C v l) (hf : FV w B2 A b sv N ks ss k m) (ht : Turn (VS A b sv) w w') : KsR (PO w' B) w' C v l := by
  refine (h.mono (fun a b c kn hp => hp.turn hf.off ht)).moved ht (fun g cs hS hg => ?_)
  rcases hS with rfl | rfl | hS
  · have := hf.view
    unfold BX at this
    rw [this] at hg
    injection hg with hg
    injection hg with _ e _
    exact absurd e (by decide)
  · obtain ⟨D, ⟨es, cl, hb, _⟩, _⟩ := hf.map
    rw [hb] at hg
    injection hg with hg
    cases hg
  · obtain ⟨_, cs', e'⟩ := fv_block hf.sp hS
    rw [e'] at hg
    injection hg with hg
    injection hg with _ e _
    exact absurd e (by decide)
theorem one_get {w W : World} {B C n : Nat} {ao : Option Addr} {c : Nat} (h : KsR (PO w B) W C (.slice ao n c) [eK19]) : n = 1 ∧ ∃ g o, ao = some ⟨g, o, none⟩ ∧ ∀ V, Below W.heap.size W V → V.cell? ⟨g, o, none⟩ = some (.int .i64 0) := by
  have hk := h.ks
  have hl : n = 1 := hk.len.1
  obtain ⟨g, o, _, _, _, _, _, _, _, _, _, rfl, _, hc⟩ := hk.get (j := 0) (by omega)
  refine ⟨hl, g, o, rfl, fun V hV => ?_⟩
  have := (hc V hV).1
  rw [Nat.zero_mul, Nat.add_zero] at this
  exact this
set_option maxHeartbeats 8000000 in
set_option maxRecDepth 100000 in
theorem lives19_any (w : World) : Calls Tryz.prog 8 #[] w fun e w' => e = .returned (.bool true) ∧ Below w.heap.size w w' := by
  go_enter Tryz.func8, Tryz.ntmps8
  go_wp2_with fail
  refine (empty19 _).mono ?_
  rintro e w1 ⟨rfl, hb1⟩
  have n1 := BX.new w1 39 #[.int .i64 0, .int .u64 0, .int .u64 0, .int .i64 0, .string ⟨#[]⟩, .string ⟨#[]⟩, .bool true, .int .i64 (-1), .slice none 0 0, .slice none 0 0, .slice none 0 0]
  have hx1 := boxed_below w1 (.cells #[.int .i64 0, .int .u64 0, .int .u64 0, .int .i64 0, .string ⟨#[]⟩, .string ⟨#[]⟩, .bool true, .int .i64 (-1), .slice none 0 0, .slice none 0 0, .slice none 0 0] 39)
  obtain ⟨W1, hW1⟩ : ∃ W, W = w1.alloc (.cells #[.int .i64 0, .int .u64 0, .int .u64 0, .int .i64 0, .string ⟨#[]⟩, .string ⟨#[]⟩, .bool true, .int .i64 (-1), .slice none 0 0, .slice none 0 0, .slice none 0 0] 39) := ⟨_, rfl⟩
  rw [← hW1] at n1 hx1
  have HX1 := Lib.hid (hb1.trans (hx1.mono hb1.size))
  have HV1 := Lib.hid (view_says W1 _ 1 1 [eK19] W1 (Below.refl _ _) (eK_row n1) eK_ok (by omega))
  rw [eK_all] at HV1
  have HW1 := Lib.hid hW1
  clear hb1 n1 hx1 hW1
  go_wp2_with fail
  rw [← HW1.out]
  clear HW1
  refine HV1.out.mono ?_
  rintro e w2 ⟨A, b, N, rfl, hf2, hb2⟩
  have HF2 := Lib.hid hf2
  have HX2 := Lib.hid (HX1.out.trans (hb2.mono HX1.out.size))
  have HBS := Lib.hid (show ∀ g, VS A b (.slice none 0 0) g → w.heap.size ≤ g from fun g hg => Nat.le_trans HX1.out.size (hf2.base g hg))
  clear hf2 hb2 HV1 HX1
  go_wp2_with fail
  refine (leaf_says 9 ⟨#[97]⟩ w2 HF2.out eK_ok (by decide) (by decide)).mono ?_
  rintro e w3 ⟨ao, n, c, ok, k3, m3, rfl, hf3, ht3, he3⟩
  have h3 := he3 eK_sound
  unfold Ends at h3
  rw [show (9 : Int).toNat = 8 + 1 from rfl, eK_run0] at h3
  obtain ⟨rfl, rfl, rfl, hk3⟩ := h3
  have HF3 := Lib.hid hf3
  have HK3 := Lib.hid hk3
  have HX3 := Lib.hid (HX2.out.trans (ht3.below HBS.out HX2.out.size))
  clear hf3 ht3 he3 hk3 HF2 HX2
  go_wp2_with fail
  refine (below_says 9 ⟨#[]⟩ w3 HF3.out eK_ok (by decide) (by decide)).mono ?_
  rintro e w4 ⟨ao4, n4, c4, ok4, k4, m4, rfl, hf4, ht4, he4⟩
  have h4 := he4 eK_sound
  unfold Ends at h4
  rw [show (9 : Int).toNat = 8 + 1 from rfl, eK_run1] at h4
  obtain ⟨rfl, hv4, hk4, hm4⟩ := h4
  obtain ⟨rfl, rfl, rfl⟩ : ao4 = none ∧ n4 = 0 ∧ c4 = 0 := by injection hv4 with e1 e2 e3; exact ⟨e1, e2, e3⟩
  have hk4' : k4 = 3 := hk4
  subst hk4'
  have HF4 := Lib.hid hf4
  have HK4 := Lib.hid (HK3.out.fv HF3.out ht4)
  have HX4 := Lib.hid (HX3.out.trans (ht4.below HBS.out HX3.out.size))
  clear hf4 ht4 he4 hv4 hk4 hm4 HF3 HK3 HX3
  go_wp2_with fail
  refine (empty19 _).mono ?_
  rintro e w5 ⟨rfl, hb5⟩
  have n5 := BX.new w5 39 #[.int .i64 0, .int .u64 0, .int .u64 0, .int .i64 0, .string ⟨#[]⟩, .string ⟨#[]⟩, .bool true, .int .i64 (-1), .slice none 0 0, .slice none 0 0, .slice none 0 0]
  have hx5 := boxed_below w5 (.cells #[.int .i64 0, .int .u64 0, .int .u64 0, .int .i64 0, .string ⟨#[]⟩, .string ⟨#[]⟩, .bool true, .int .i64 (-1), .slice none 0 0, .slice none 0 0, .slice none 0 0] 39)
  obtain ⟨W5, hW5⟩ : ∃ W, W = w5.alloc (.cells #[.int .i64 0, .int .u64 0, .int .u64 0, .int .i64 0, .string ⟨#[]⟩, .string ⟨#[]⟩, .bool true, .int .i64 (-1), .slice none 0 0, .slice none 0 0, .slice none 0 0] 39) := ⟨_, rfl⟩
  rw [← hW5] at n5 hx5
  have hb45 := hb5.trans (hx5.mono hb5.size)
  have HX5 := Lib.hid (HX4.out.trans (hb45.mono HX4.out.size))
  have HF5 := Lib.hid (HF4.out.keep hb45)
  have HK5 := Lib.hid (HK4.out.later hb45)
  have HV5 := Lib.hid (view_says W5 _ 1 1 [eK19] W5 (Below.refl _ _) (eK_row n5) eK_ok (by omega))
  rw [eK_all] at HV5
  have HW5 := Lib.hid hW5
  clear hb5 n5 hx5 hW5 hb45 HF4 HK4 HX4
  go_wp2_with fail
  rw [← HW5.out]
  clear HW5
  refine HV5.out.mono ?_
  rintro e w6 ⟨A6, b6, N6, rfl, hf6, hb6⟩
  have HF6 := Lib.hid hf6
  have HB6 := Lib.hid (show ∀ g, VS A6 b6 (.slice none 0 0) g → W5.heap.size ≤ g from hf6.base)
  have HFV := Lib.hid (HF5.out.keep hb6)
  have HK6 := Lib.hid (HK5.out.later hb6)
  have HS5 := Lib.hid HX5.out.size
  have HX6 := Lib.hid (HX5.out.trans (hb6.mono HX5.out.size))
  have HS6 := Lib.hid (show W5.heap.size ≤ w6.heap.size from hb6.size)
  have HV6 := Lib.hid (show ∀ g, VS A b (.slice none 0 0) g → g < W5.heap.size from fun g hg => by
    have h1 := HF5.out.lt
    rcases hg with rfl | rfl | hg
    · exact h1.1
    · exact h1.2.1
    · cases hg)
  clear hf6 hb6 HV5 HX5 HF5 HK5
  go_wp2_with fail
  refine (end_says 9 ⟨#[]⟩ w6 HF6.out eK_ok (by decide)).mono ?_
  rintro e w7 ⟨ao7, n7, c7, ok7, k7, m7, rfl, hf7, ht7, he7⟩
  have h7 := he7 eK_sound
  unfold Ends at h7
  rw [show (9 : Int).toNat = 8 + 1 from rfl, eK_run2] at h7
  obtain ⟨rfl, _, _, hk7⟩ := h7
  have hb7 : Below W5.heap.size w6 w7 := ht7.below HB6.out HS6.out
  have HFV7 := Lib.hid (HFV.out.turn ht7 (fun j hj hj2 => by have h1 := HB6.out j hj2; have h2 := HV6.out j hj; omega) (HF6.out.off))
  have HN7 := Lib.hid (one_get hk7).1
  have HX7 := Lib.hid (HX6.out.trans (ht7.below (fun g hg => Nat.le_trans HS5.out (HB6.out g hg)) HX6.out.size))
  have hk6 := HK6.out.fv2 HF6.out ht7
  obtain ⟨hn, g, o, rfl, hcell⟩ := one_get hk6
  have HCE := Lib.hid hcell
  have hn7 := HN7.out
  subst hn
  subst hn7
  clear hf7 ht7 he7 hk7 hb7 hcell hk6 HK6 HX6 HN7 HF6 HFV
  have HNE := Lib.hid (need_fv w7 HFV7.out)
  have hc0 := HCE.out w7 (Below.refl _ _)
  go_wp2_with fail
  refine HNE.out.mono ?_
  rintro e w8 ⟨rfl, hb8⟩
  have HX8 := Lib.hid (HX7.out.trans (hb8.mono HX7.out.size))
  clear hb8 hc0
  have hfl : ∀ W, (Instr.field 57 (.agg #[.int .i64 3, .int .i64 m4]) 0).run Tryz.prog W = .ok (.int .i64 3) W := fun W => by kernel_rfl
  go_wp2
  go_ret
  exact ⟨rfl, HX8.out⟩
end Go.Proofs.YtdbklklmpnlinaaGreat
