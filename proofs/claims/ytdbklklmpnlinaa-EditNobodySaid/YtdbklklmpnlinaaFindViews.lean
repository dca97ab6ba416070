/- Views of nodes that came in: the code's and the document's; whether all are small, or sound. Conditions: sizes that fit. -/
import Derived.Test.YtdbklklmpnlinaaFvLearn
import Derived.Test.YtdbklklmpnlinaaRWay
import Derived.Deep.DeepCutAuto
import Derived.Deep.RegionHeldLaw
namespace Go.Proofs.Ytdbklklmpnlinaa
open Go.RowKit Go.Maps

theorem wf_cell {c : Int} (h : cellB c = true) : (Lit.int .i64 c).wf = true := by
  rw [cellB_iff] at h
  have h1 : IntKind.i64.min = -9223372036854775808 := by decide
  have h2 : IntKind.i64.max = 9223372036854775807 := by decide
  unfold Lit.wf
  rw [Bool.and_eq_true, decide_eq_true_iff, decide_eq_true_iff, h1, h2]
  omega
section
variable {B A b N : Nat} {sv : Value} {ks : List Kn} {ss : List (Int × Int)} {k m : Int}
theorem learn_out (kn : Kn) (v : Value) (w : World) (hcell : cellB kn.c = false) (h : FV w B A b sv N ks ss k m) (hv : KnV w v kn) :
    Calls Try.prog 70 #[.pointer (some ⟨A, 0, none⟩), v] w fun e w' => e = .returned (.bool false) ∧ FV w' B A b sv N ks ss k m ∧ Below w.heap.size w w' := by
  obtain ⟨ak, av, ac, ck, cv, cc, rfl, hNd⟩ := hv
  unfold Kn.val
  have hx := boxed_below w (.cells #[.int .i64 kn.c, .int .u64 kn.wd, .int .u64 kn.vr, .int .i64 kn.n.lv, .string kn.n.lo, .string kn.n.hi, .bool kn.n.la, .int .i64 kn.n.nx, .slice ak kn.n.ks.length ck, .slice av kn.n.vs.length cv, .slice ac kn.n.cs.length cc] 43)
  have n1 := BX.new w 43 #[.int .i64 kn.c, .int .u64 kn.wd, .int .u64 kn.vr, .int .i64 kn.n.lv, .string kn.n.lo, .string kn.n.hi, .bool kn.n.la, .int .i64 kn.n.nx, .slice ak kn.n.ks.length ck, .slice av kn.n.vs.length cv, .slice ac kn.n.cs.length cc]
  obtain ⟨W1, hW1⟩ : ∃ W, W = w.alloc (.cells #[.int .i64 kn.c, .int .u64 kn.wd, .int .u64 kn.vr, .int .i64 kn.n.lv, .string kn.n.lo, .string kn.n.hi, .bool kn.n.la, .int .i64 kn.n.nx, .slice ak kn.n.ks.length ck, .slice av kn.n.vs.length cv, .slice ac kn.n.cs.length cc] 43) := ⟨_, rfl⟩
  rw [← hW1] at hx n1
  have hm1 := h.keep hx
  have HI := Lib.hid (isMade_yes A b _ k m _ hm1.view)
  have HCE := Lib.hid (fun W => fcell_any kn.c W)
  rw [hcell] at HCE
  have HM := Lib.hid hm1
  have HX := Lib.hid hx
  have HW := Lib.hid hW1
  have k0 : W1.cell? ⟨w.heap.size, 0, none⟩ = some (.int .i64 kn.c) := n1.cell 0 rfl
  clear hx hm1 h n1 hW1 hcell hNd
  go_enter Try.func70, Try.ntmps70
  go_upto_region 1 with fail
  rw [← HW.out]
  clear HW
  go_wp2_with fail
  refine HI.out.mono ?_
  rintro e w3 ⟨rfl, h3⟩
  rw [← h3]
  clear h3
  go_wp2_with fail
  refine (HCE.out _).mono ?_
  rintro e w4 ⟨rfl, h4⟩
  rw [← h4]
  clear h4
  go_wp2
  go_ret
  exact ⟨rfl, HM.out, HX.out⟩
end
/-- What is known behind a learning. -/
def learnK (vs : List Kn) (k : Kn) : List Kn := if cellB k.c = true then kdrop vs k.c ++ [k] else vs
def learnAll (ks : List Kn) : List Kn := ks.foldl learnK []
theorem learnK_len (vs : List Kn) (k : Kn) : (learnK vs k).length ≤ vs.length + 1 := by
  unfold learnK
  split
  · rw [List.length_append, List.length_singleton]
    have := kdrop_le vs k.c
    omega
  · omega
theorem learnK_mem {vs : List Kn} {k x : Kn} (h : x ∈ learnK vs k) : x ∈ vs ∨ x = k := by
  unfold learnK at h
  split at h
  · rcases List.mem_append.1 h with h | h
    · exact Or.inl (List.mem_filter.1 h).1
    · exact Or.inr (List.mem_singleton.1 h)
  · exact Or.inl h
theorem learn_more {ks : List Kn} {i : Nat} (h : i < ks.length) : learnAll (ks.take (i + 1)) = learnK (learnAll (ks.take i)) (kAt ks i) := by
  unfold learnAll
  rw [List.take_succ_eq_append_getElem h, List.foldl_append, kAt_eq h]
  rfl
theorem learnAll_len (ks : List Kn) : (learnAll ks).length ≤ ks.length := by
  have : ∀ (l vs : List Kn), (l.foldl learnK vs).length ≤ vs.length + l.length := by
    intro l
    induction l with
    | nil => intro vs; exact Nat.le_refl _
    | cons k l ih =>
      intro vs
      have h1 := ih (learnK vs k)
      have h2 := learnK_len vs k
      simp only [List.foldl_cons, List.length_cons]
      omega
  have h := this ks []
  simpa [learnAll] using h
theorem learnAll_mem {ks : List Kn} {x : Kn} (h : x ∈ learnAll ks) : x ∈ ks := by
  have : ∀ (l vs : List Kn), x ∈ l.foldl learnK vs → x ∈ vs ∨ x ∈ l := by
    intro l
    induction l with
    | nil => intro vs h; exact Or.inl h
    | cons k l ih =>
      intro vs h
      rcases ih _ h with h | h
      · rcases learnK_mem h with h | rfl
        · exact Or.inl h
        · exact Or.inr (List.mem_cons_self ..)
      · exact Or.inr (List.mem_cons_of_mem _ h)
  rcases this ks [] h with h | h
  · cases h
  · exact h
theorem kAt_mem {ks : List Kn} {i : Nat} (h : i < ks.length) : kAt ks i ∈ ks := by rw [kAt_eq h]; exact List.getElem_mem h

set_option maxHeartbeats 4000000 in
set_option maxRecDepth 100000 in
theorem view_says (w0 : World) (ao : Option Addr) (n c : Nat) (ks : List Kn) (w : World) (h0 : Below w0.heap.size w0 w) (h : KsAt (PV w0) w (.slice ao n c) ks) (hok : ∀ kn ∈ ks, NodOk kn.n) (hn : n ≤ 1000000) :
    Calls Try.prog 38 #[.slice ao n c] w fun e w' => ∃ A b N, e = .returned (.pointer (some ⟨A, 0, none⟩)) ∧ FV w' w.heap.size A b (.slice none 0 0) N (learnAll ks) [] 0 0 ∧ Below w.heap.size w w' := by
  have HNew := Lib.hid (new_fv w)
  have hl := h.len
  have HL := Lib.hid hl.1
  have HK := Lib.hid h
  have HOK := Lib.hid hok
  have H0 := Lib.hid h0
  have hl2 := hl.2
  clear h hok h0 hl
  go_enter Try.func38, Try.ntmps38
  go_wp2_with fail
  refine HNew.out.mono ?_
  rintro e w1 ⟨A, b, rfl, hf, hb⟩
  have HF := Lib.hid hf
  have HB1 := Lib.hid hb
  clear hf hb HNew
  go_wp2
  go_loopw [9] (fun s wr => ∃ (i N : Nat), s = .int .i64 i ∧ i ≤ n ∧ N ≤ i ∧ Hid (FV wr w.heap.size A b (.slice none 0 0) N (learnAll (ks.take i)) [] 0 0 ∧ Below w.heap.size w wr)) (fun s _ => n - (intOf s).toNat)
  case atStart => exact ⟨0, 0, rfl, Nat.zero_le _, Nat.le_refl _, Lib.hid ⟨HF.out, HB1.out⟩⟩
  case round =>
    obtain ⟨i, N, rfl, hi, hN, HV⟩ := hrel
    by_cases hlt : i < n
    · obtain ⟨g, o, ak, nk, ck, av, nv, cv, ac, nc, cc, rfl, hP, hc⟩ := HK.out.get hlt
      have hil : i < ks.length := by have := HL.out; omega
      have hmore := learn_more hil
      have hno := HOK.out _ (kAt_mem hil)
      obtain ⟨kn, hkn⟩ : ∃ kn, kn = kAt ks i := ⟨_, rfl⟩
      rw [← hkn] at hc hP hmore hno
      obtain ⟨rfl, rfl, rfl, hnd⟩ := hP.nd
      obtain ⟨q0, q1, q2, q3, q4, q5, q6, q7, q8, q9, q10⟩ := hc _ HV.out.2
      have hlt' : (i : Int) < n := by omega
      have hx := boxed_below wr (.cells #[.int .i64 kn.c, .int .u64 kn.wd, .int .u64 kn.vr, .int .i64 kn.n.lv, .string kn.n.lo, .string kn.n.hi, .bool kn.n.la, .int .i64 kn.n.nx, .slice ak kn.n.ks.length ck, .slice av kn.n.vs.length cv, .slice ac kn.n.cs.length cc] 43)
      obtain ⟨W2, hW2⟩ : ∃ W, W = wr.alloc (.cells #[.int .i64 kn.c, .int .u64 kn.wd, .int .u64 kn.vr, .int .i64 kn.n.lv, .string kn.n.lo, .string kn.n.hi, .bool kn.n.la, .int .i64 kn.n.nx, .slice ak kn.n.ks.length ck, .slice av kn.n.vs.length cv, .slice ac kn.n.cs.length cc] 43) := ⟨_, rfl⟩
      rw [← hW2] at hx
      have hf2 := HV.out.1.keep hx
      have hb2 := HV.out.2.trans (hx.mono HV.out.2.size)
      have hkv : KnV W2 (kn.val (.slice ak kn.n.ks.length ck) (.slice av kn.n.vs.length cv) (.slice ac kn.n.cs.length cc)) kn := ⟨ak, av, ac, ck, cv, cc, rfl, hnd.keep (H0.out.trans (hb2.mono H0.out.size))⟩
      have HW2 := Lib.hid hW2
      have HM := Lib.hid hmore
      cases hcell : cellB kn.c with
      | true =>
        have HLR := Lib.hid (learn_fv kn _ W2 (wf_cell hcell) hcell (by omega) hf2 hkv ⟨by have := hno.n1; omega, by have := hno.n2; omega, by have := hno.n3; omega⟩)
        unfold Kn.val at HLR
        have HE := Lib.hid (show learnK (learnAll (ks.take i)) kn = kdrop (learnAll (ks.take i)) kn.c ++ [kn] by unfold learnK; rw [if_pos hcell])
        have HBB := Lib.hid hb2
        have HFB := Lib.hid (show (∀ g, VS A b (.slice none 0 0) g → w.heap.size ≤ g) ∧ w.heap.size ≤ W2.heap.size from ⟨hf2.base, hb2.size⟩)
        clear hkv hf2 hb2 hx hW2 hmore hno hnd hP hc hcell hkn
        go_wp2_with fail
        rw [← HW2.out]
        refine HLR.out.mono ?_
        rintro e w5 ⟨rfl, hf5, ht5⟩
        have HF5 := Lib.hid hf5
        have HB5 := Lib.hid (HBB.out.trans (ht5.below HFB.out.1 HFB.out.2))
        clear hf5 ht5 q0 q1 q2 q3 q4 q5 q6 q7 q8 q9 q10
        go_wp2
        go_roundw
        case rel => exact ⟨i + 1, N + 1, by go_num, by omega, by omega, Lib.hid ⟨by rw [HM.out, HE.out]; exact HF5.out, HB5.out⟩⟩
        case measure => simp [intOf]; omega
      | false =>
        have HLR := Lib.hid (learn_out kn _ W2 hcell hf2 hkv)
        unfold Kn.val at HLR
        have HE := Lib.hid (show learnK (learnAll (ks.take i)) kn = learnAll (ks.take i) by unfold learnK; rw [if_neg (by rw [hcell]; simp)])
        have HBB := Lib.hid hb2
        clear hkv hf2 hb2 hx hW2 hmore hno hnd hP hc hcell hkn
        go_wp2_with fail
        rw [← HW2.out]
        refine HLR.out.mono ?_
        rintro e w5 ⟨rfl, hf5, hb5⟩
        have HF5 := Lib.hid hf5
        have HB5 := Lib.hid (HBB.out.trans (hb5.mono HBB.out.size))
        clear hf5 hb5 q0 q1 q2 q3 q4 q5 q6 q7 q8 q9 q10
        go_wp2
        go_roundw
        case rel => exact ⟨i + 1, N, by go_num, by omega, by omega, Lib.hid ⟨by rw [HM.out, HE.out]; exact HF5.out, HB5.out⟩⟩
        case measure => simp [intOf]; omega
    · obtain rfl : i = n := by omega
      have HA := Lib.hid (show ks.take i = ks by rw [HL.out]; exact List.take_length)
      go_wp2
      go_ret
      exact ⟨A, b, N, rfl, by have h := HV.out.1; rw [HA.out] at h; exact h, HV.out.2⟩


/-- Is each small, and are there few? -/
def LightK (ks : List Kn) : Prop := (∀ kn ∈ ks, LightP kn.n.lo kn.n.hi kn.n.ks.length kn.n.vs.length kn.n.cs.length kn.n.ks) ∧ ks.length ≤ 40
set_option maxHeartbeats 4000000 in
set_option maxRecDepth 100000 in
theorem light15_any (w0 : World) (ao : Option Addr) (n c : Nat) (ks : List Kn) (w : World) (h0 : Below w0.heap.size w0 w) (h : KsAt (PV w0) w (.slice ao n c) ks) :
    Calls Try.prog 6 #[.slice ao n c] w fun e w' => EveryGives w w' e (LightK ks) := by
  have hl := h.len
  have HL := Lib.hid hl.1
  have HK := Lib.hid h
  have H0 := Lib.hid h0
  have hl2 := hl.2
  clear h h0 hl
  go_enter Try.func6, Try.ntmps6
  go_wp2
  go_loopw [7] (fun s wr => ∃ (i : Nat), s = .int .i64 i ∧ i ≤ n ∧ Hid (Below w.heap.size w wr ∧ ∀ j, j < i → LightP (kAt ks j).n.lo (kAt ks j).n.hi (kAt ks j).n.ks.length (kAt ks j).n.vs.length (kAt ks j).n.cs.length (kAt ks j).n.ks)) (fun s _ => n - (intOf s).toNat)
  case atStart => exact ⟨0, rfl, Nat.zero_le _, Lib.hid ⟨Below.refl _ _, fun j hj => absurd hj (Nat.not_lt_zero _)⟩⟩
  case round =>
    obtain ⟨i, rfl, hi, HV⟩ := hrel
    by_cases hlt : i < n
    · obtain ⟨g, o, ak, nk, ck, av, nv, cv, ac, nc, cc, rfl, hP, hc⟩ := HK.out.get hlt
      have hil : i < ks.length := by have := HL.out; omega
      obtain ⟨kn, hkn⟩ : ∃ kn, kn = kAt ks i := ⟨_, rfl⟩
      rw [← hkn] at hc hP
      obtain ⟨rfl, rfl, rfl, hnd⟩ := hP.nd
      obtain ⟨q0, q1, q2, q3, q4, q5, q6, q7, q8, q9, q10⟩ := hc _ HV.out.1
      have hlt' : (i : Int) < n := by omega
      have hx := boxed_below wr (.cells #[.int .i64 kn.c, .int .u64 kn.wd, .int .u64 kn.vr, .int .i64 kn.n.lv, .string kn.n.lo, .string kn.n.hi, .bool kn.n.la, .int .i64 kn.n.nx, .slice ak kn.n.ks.length ck, .slice av kn.n.vs.length cv, .slice ac kn.n.cs.length cc] 43)
      obtain ⟨W2, hW2⟩ : ∃ W, W = wr.alloc (.cells #[.int .i64 kn.c, .int .u64 kn.wd, .int .u64 kn.vr, .int .i64 kn.n.lv, .string kn.n.lo, .string kn.n.hi, .bool kn.n.la, .int .i64 kn.n.nx, .slice ak kn.n.ks.length ck, .slice av kn.n.vs.length cv, .slice ac kn.n.cs.length cc] 43) := ⟨_, rfl⟩
      rw [← hW2] at hx
      have hb2 := HV.out.1.trans (hx.mono HV.out.1.size)
      have hnd2 := hnd.keep (H0.out.trans (hb2.mono H0.out.size))
      have HQ := Lib.hid (nlight_any kn.n.lv kn.n.nx kn.n.lo kn.n.hi kn.n.la ak av ac kn.n.ks.length ck kn.n.vs.length cv kn.n.cs.length cc kn.n.ks W2 hnd2.k (by have := (rd_len hnd2.v).2; omega) (by have := (rd_len hnd2.c).2; omega))
      have HW2 := Lib.hid hW2
      have HBB := Lib.hid hb2
      have HKN := Lib.hid hkn
      have HIL := Lib.hid hil
      clear hx hW2 hb2 hnd hnd2 hP hc hkn hil
      go_wp2_with fail
      rw [← HW2.out]
      refine HQ.out.mono ?_
      rintro e w5 ⟨r, rfl, hr, hb5⟩
      have HR := Lib.hid hr
      have HB5 := Lib.hid (HBB.out.trans (hb5.mono HBB.out.size))
      clear hr hb5 q0 q1 q2 q3 q4 q5 q6 q7 q8 q9 q10
      cases r with
      | true =>
        go_wp2
        go_roundw
        case rel => exact ⟨i + 1, by go_num, by omega, Lib.hid ⟨HB5.out, fun j hj => by
          by_cases e : j = i
          · subst e; rw [← HKN.out]; exact HR.out.1 (by first | rfl | trivial)
          · exact HV.out.2 j (by omega)⟩⟩
        case measure => simp [intOf]; omega
      | false =>
        go_wp2
        go_ret
        exact ⟨false, rfl, ⟨fun h => (by cases h), fun h => by
          have := HR.out.2 (by rw [HKN.out]; exact h.1 _ (kAt_mem HIL.out))
          cases this⟩, HB5.out⟩
    · obtain rfl : i = n := by omega
      have HALL := Lib.hid (show ∀ kn ∈ ks, LightP kn.n.lo kn.n.hi kn.n.ks.length kn.n.vs.length kn.n.cs.length kn.n.ks from fun kn hm => by
        obtain ⟨j, hj, rfl⟩ := List.mem_iff_getElem.1 hm
        have h := HV.out.2 j (by have := HL.out; omega)
        rw [kAt_eq hj] at h
        exact h)
      by_cases h40 : i ≤ 40
      · have h40' : (i : Int) ≤ 40 := by omega
        go_wp2
        go_ret
        exact ⟨true, rfl, ⟨fun _ => ⟨HALL.out, by have := HL.out; omega⟩, fun _ => rfl⟩, HV.out.1⟩
      · have h40' : ¬ (i : Int) ≤ 40 := by omega
        go_wp2
        go_ret
        exact ⟨false, rfl, ⟨fun h => (by cases h), fun h => by have := HL.out; have := h.2; omega⟩, HV.out.1⟩

end Go.Proofs.Ytdbklklmpnlinaa
