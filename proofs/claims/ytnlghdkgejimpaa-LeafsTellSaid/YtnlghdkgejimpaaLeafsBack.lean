/- The law LeafsBack, walked: With and Without make sound leaves of sound ones, of the same range; what one does, the other takes back. Condition: the node's rows are there. -/
import Derived.Test.YtnlghdkgejimpaaLeafLives2
import Derived.Test.YtnlghdkgejimpaaNodeSameOps
namespace Go.Proofs.Ytnlghdkgejimpaa
open Go.RowKit

theorem insF_le {α : Type} (xs : List α) (a : Nat) (x : α) : (insF xs a x).length ≤ xs.length + 1 := by
  unfold insF; rw [List.length_append, List.length_cons, List.length_take, List.length_drop]; omega
theorem cutF_le {α : Type} (xs : List α) (a : Nat) : (cutF xs a).length ≤ xs.length := by
  unfold cutF; rw [List.length_append, List.length_take, List.length_drop]; omega
theorem Nod.with_rows (lv nx : Int) (lo hi : ByteArray) (la : Bool) (ks : List ByteArray) (vs : List Nat) (cs : List Int) (k : ByteArray) (v : Nat) : ∃ ks2 vs2, Nod.with ⟨lv, nx, lo, hi, la, ks, vs, cs⟩ k v = ⟨lv, nx, lo, hi, la, ks2, vs2, cs⟩ ∧ (∀ x ∈ ks2, x ∈ ks ∨ x = k) ∧ ks2.length ≤ ks.length + 1 ∧ vs2.length ≤ vs.length + 1 := by
  unfold Nod.with
  by_cases h : thereF ks k
  · rw [if_pos h]
    exact ⟨ks, vs.set (placeF ks k) v, rfl, fun x hx => Or.inl hx, by omega, by rw [List.length_set]; omega⟩
  · rw [if_neg h]
    refine ⟨_, _, rfl, fun x hx => ?_, ?_, ?_⟩
    · unfold insF at hx
      rcases List.mem_append.1 hx with h | h
      · exact Or.inl (List.mem_of_mem_take h)
      · rcases List.mem_cons.1 h with h | h
        · exact Or.inr h
        · exact Or.inl (List.mem_of_mem_drop h)
    · exact insF_le _ _ _
    · exact insF_le _ _ _
theorem Nod.without_rows (lv nx : Int) (lo hi : ByteArray) (la : Bool) (ks : List ByteArray) (vs : List Nat) (cs : List Int) (k : ByteArray) : ∃ ks2 vs2, Nod.without ⟨lv, nx, lo, hi, la, ks, vs, cs⟩ k = ⟨lv, nx, lo, hi, la, ks2, vs2, cs⟩ ∧ (∀ x ∈ ks2, x ∈ ks) ∧ ks2.length ≤ ks.length ∧ vs2.length ≤ vs.length := by
  refine ⟨_, _, rfl, fun x hx => ?_, ?_, ?_⟩
  · unfold cutF at hx
    rcases List.mem_append.1 hx with h | h
    · exact List.mem_of_mem_take h
    · exact List.mem_of_mem_drop h
  · exact cutF_le _ _
  · exact cutF_le _ _
theorem fit_of_light {lo hi : ByteArray} {ks : List ByteArray} {nv nc : Nat} (h : LightP lo hi ks.length nv nc ks) : Fit lo hi ks ks.length nv nc := by
  refine ⟨by have := h.b; omega, by have := h.b; omega, fun x hx => ?_, by have := h.n; omega⟩
  obtain ⟨i, hi, rfl⟩ := List.getElem_of_mem hx
  have := h.k i hi
  rw [nth_eq hi] at this
  omega

set_option maxHeartbeats 8000000 in
set_option maxRecDepth 100000 in
theorem leafsBack_any (lv nx : Int) (lo hi : ByteArray) (la : Bool) (ak av ac : Option Addr) (ck cv cc : Nat) (ks : List ByteArray) (vs : List Nat) (cs : List Int) (k : ByteArray) (v : Nat) (fan : Int) (w : World) (hN : NdAt w ak av ac ks.length ck vs.length cv cs.length cc ks vs cs) :
    Calls Try.prog 5 #[.agg #[.int .i64 lv, .string lo, .string hi, .bool la, .int .i64 nx, .slice ak ks.length ck, .slice av vs.length cv, .slice ac cs.length cc], .string k, .int .u64 v, .int .i64 fan] w fun e w' => e = .returned (.bool true) ∧ Below w.heap.size w w' := by
  have HB := Lib.hid (boxed_below w (.cells #[.int .i64 lv, .string lo, .string hi, .bool la, .int .i64 nx, .slice ak ks.length ck, .slice av vs.length cv, .slice ac cs.length cc] 26))
  have HNB := Lib.hid (NB.new w #[.int .i64 lv, .string lo, .string hi, .bool la, .int .i64 nx, .slice ak ks.length ck, .slice av vs.length cv, .slice ac cs.length cc])
  have HND := Lib.hid (hN.keep HB.out)
  obtain ⟨w1, hw1⟩ : ∃ w1, w1 = w.alloc (.cells #[.int .i64 lv, .string lo, .string hi, .bool la, .int .i64 nx, .slice ak ks.length ck, .slice av vs.length cv, .slice ac cs.length cc] 26) := ⟨_, rfl⟩
  rw [← hw1] at HB HNB HND
  have HW1 := Lib.hid hw1
  have HL := Lib.hid (nlight_any lv nx lo hi la ak av ac ks.length ck vs.length cv cs.length cc ks w1 HND.out.k (by have := rd_len hN.v; omega) (by have := rd_len hN.c; omega))
  have HLV := Lib.hid lives11_any
  obtain ⟨q0, q1, q2, q3, q4, q5, q6, q7⟩ := HNB.out.cells
  clear hN hw1
  go_enter Try.func5, Try.ntmps5
  go_wp2_with fail
  rw [← HW1.out]
  refine HL.out.mono ?_
  rintro e w2 ⟨r, rfl, hr, hb2⟩
  have HP := Lib.hid hr
  have HB2 := Lib.hid hb2
  clear hr hb2 q0 q1 q2 q3 q4 q5 q6 q7 HL HW1
  obtain ⟨q0, q1, q2, q3, q4, q5, q6, q7⟩ := (HNB.out.below HB2.out).cells
  cases r with
  | false =>
    have HE := Lib.hid (HB.out.trans (HB2.out.mono HB.out.size))
    go_wp2_with fail
    refine (HLV.out _).mono ?_
    rintro e wl ⟨rfl, hbl⟩
    have HBL := Lib.hid (HE.out.trans (hbl.mono HE.out.size))
    clear hbl
    go_wp2
    go_ret
    exact ⟨rfl, HBL.out⟩
  | true =>
    have HLP := Lib.hid (HP.out.1 rfl)
    have HFT := Lib.hid (fit_of_light HLP.out)
    by_cases hk : 100 < k.size
    case pos =>
      have hk2 : (100 : Int) < k.size := by omega
      have HE := Lib.hid (HB.out.trans (HB2.out.mono HB.out.size))
      go_wp2_with fail
      refine (HLV.out _).mono ?_
      rintro e wl ⟨rfl, hbl⟩
      have HBL := Lib.hid (HE.out.trans (hbl.mono HE.out.size))
      clear hbl
      go_wp2
      go_ret
      exact ⟨rfl, HBL.out⟩
    case neg =>
      have hk2 : (k.size : Int) ≤ 100 := by omega
      obtain ⟨cb, hcb⟩ := bool_or ((4 ≤ fan ∧ fan ≤ 64) ∧ SoundP lv nx lo hi la ks.length vs.length cs.length ks cs fan)
      have HCK := Lib.hid (check_of lv nx lo hi la ak av ac ks.length ck vs.length cv cs.length cc ks vs cs fan cb w2 (HND.out.keep HB2.out) HFT.out hcb)
      have HCB := Lib.hid hcb
      clear hcb
      go_wp2_with fail
      refine HCK.out.mono ?_
      rintro e w3 ⟨c, rfl, _, hc, hb3⟩
      have HB3 := Lib.hid (HB2.out.trans (hb3.mono HB2.out.size))
      clear hb3 q0 q1 q2 q3 q4 q5 q6 q7 HCK
      obtain ⟨q0, q1, q2, q3, q4, q5, q6, q7⟩ := (HNB.out.below HB3.out).cells
      cases cb with
      | false =>
        have HE := Lib.hid (HB.out.trans (HB3.out.mono HB.out.size))
        go_wp2_with fail
        refine (HLV.out _).mono ?_
        rintro e wl ⟨rfl, hbl⟩
        have HBL := Lib.hid (HE.out.trans (hbl.mono HE.out.size))
        clear hbl
        go_wp2
        go_ret
        exact ⟨rfl, HBL.out⟩
      | true =>
        have HS := Lib.hid (HCB.out.1 rfl)
        by_cases h0 : lv = 0
        case neg =>
          have h0b : (lv != 0) = true := by rw [bne_iff_ne]; exact h0
          have HE := Lib.hid (HB.out.trans (HB3.out.mono HB.out.size))
          go_wp2_with fail
          refine (HLV.out _).mono ?_
          rintro e wl ⟨rfl, hbl⟩
          have HBL := Lib.hid (HE.out.trans (hbl.mono HE.out.size))
          clear hbl
          go_wp2
          go_ret
          exact ⟨rfl, HBL.out⟩
        case pos =>
          subst h0
          have hks : k.size ≤ 140737488355328 := by omega
          have HLE := Lib.hid (HS.out.2.entries.leaf rfl)
          obtain ⟨tb, htb⟩ := bool_or (thereF ks k)
          have HTB := Lib.hid htb
          obtain ⟨b, hb⟩ := bool_or (Nod.WithP ⟨0, nx, lo, hi, la, ks, vs, cs⟩ k v fan)
          have HBB := Lib.hid hb
          have HF1 := Lib.hid (fun W (h : Below w1.heap.size w1 W) => nfind_of 0 nx lo hi la ak av ac ck cv cc ks vs cs k tb W (HND.out.keep h) HFT.out hks HS.out.2.keys.rise HLE.out.1 htb)
          have HWI := Lib.hid (fun W (h : Below w1.heap.size w1 W) => with_of 0 nx lo hi la ak av ac ck cv cc ks vs cs k v fan b W (HND.out.keep h) HFT.out (by have := HLP.out.n; omega) hks hb)
          have HKS := Lib.hid hks
          generalize getF ks vs k = z at HF1
          clear htb hb hks hk
          go_wp2_with fail
          refine (HF1.out _ HB3.out).mono ?_
          rintro e w4 ⟨rfl, hb4⟩
          have HB4 := Lib.hid (HB3.out.trans (hb4.mono HB3.out.size))
          clear hb4 q0 q1 q2 q3 q4 q5 q6 q7 HF1
          obtain ⟨q0, q1, q2, q3, q4, q5, q6, q7⟩ := (HNB.out.below HB4.out).cells
          obtain ⟨ks2, vs2, hm, hmk, hml, hmv⟩ := Nod.with_rows 0 nx lo hi la ks vs cs k v
          have HM := Lib.hid hm
          have HMR := Lib.hid (And.intro hmk (And.intro hml hmv))
          rw [hm] at HWI
          clear hm hmk hml hmv
          go_wp2_with fail
          refine (HWI.out _ HB4.out).mono ?_
          cases b with
          | false =>
            obtain ⟨n0, hn0⟩ : ∃ n0, Nod.or false ⟨0, nx, lo, hi, la, ks2, vs2, cs⟩ = n0 := ⟨_, rfl⟩
            rw [hn0]
            clear hn0
            rintro e w5 ⟨ak2, av2, ac2, ck2, cv2, cc2, rfl, _, hb5, _⟩
            have HB5 := Lib.hid ((HB4.out.trans (hb5.mono HB4.out.size)).trans ((boxed_below w5 (.cells #[.int .i64 n0.lv, .string n0.lo, .string n0.hi, .bool n0.la, .int .i64 n0.nx, .slice ak2 n0.ks.length ck2, .slice av2 n0.vs.length cv2, .slice ac2 n0.cs.length cc2] 26)).mono (Nat.le_trans HB4.out.size hb5.size)))
            have HE := Lib.hid (HB.out.trans (HB5.out.mono HB.out.size))
            clear hb5
            go_wp2_with fail
            refine (HLV.out _).mono ?_
            rintro e wl ⟨rfl, hbl⟩
            have HBL := Lib.hid (HE.out.trans (hbl.mono HE.out.size))
            clear hbl
            go_wp2
            go_ret
            exact ⟨rfl, HBL.out⟩
          | true =>
            have HWP := Lib.hid (HBB.out.1 rfl)
            have HBP := Lib.hid (Nod.back_of (by have := HS.out.1; omega) rfl HS.out.2 HWP.out.2.2 : Nod.BackP ⟨0, nx, lo, hi, la, ks, vs, cs⟩ k v fan)
            rw [show Nod.or true (⟨0, nx, lo, hi, la, ks2, vs2, cs⟩ : Nod) = ⟨0, nx, lo, hi, la, ks2, vs2, cs⟩ from rfl]
            rintro e w5 ⟨ak2, av2, ac2, ck2, cv2, cc2, rfl, hnd, hb5, _⟩
            obtain ⟨W5, hW5⟩ : ∃ W5, W5 = w5.alloc (.cells #[.int .i64 0, .string lo, .string hi, .bool la, .int .i64 nx, .slice ak2 ks2.length ck2, .slice av2 vs2.length cv2, .slice ac2 cs.length cc2] 26) := ⟨_, rfl⟩
            have HBX := Lib.hid (boxed_below w5 (.cells #[.int .i64 0, .string lo, .string hi, .bool la, .int .i64 nx, .slice ak2 ks2.length ck2, .slice av2 vs2.length cv2, .slice ac2 cs.length cc2] 26))
            rw [← hW5] at HBX
            have HNA : Hid (NB W5 w5.heap.size #[.int .i64 0, .string lo, .string hi, .bool la, .int .i64 nx, .slice ak2 ks2.length ck2, .slice av2 vs2.length cv2, .slice ac2 cs.length cc2]) := Lib.hid (by rw [hW5]; exact NB.new _ _)
            have HB5 := Lib.hid ((HB4.out.trans (hb5.mono HB4.out.size)).trans (HBX.out.mono (Nat.le_trans HB4.out.size hb5.size)))
            have HDA := Lib.hid (hnd.keep HBX.out)
            have hbp := HBP.out
            obtain ⟨p1, p2, p3, p4, p5, p6, p7⟩ := hbp
            rw [HM.out] at p1 p2 p3 p4 p5 p6 p7
            obtain ⟨ks3, vs3, hm3, hk3, hl3, hv3⟩ := Nod.without_rows 0 nx lo hi la ks2 vs2 cs k
            rw [hm3] at p4 p5 p6
            have HFA : Hid (Fit lo hi ks2 ks2.length vs2.length cs.length) := Lib.hid ⟨HFT.out.lo, HFT.out.hi, fun x hx => by
              rcases HMR.out.1 x hx with h | h
              · exact HFT.out.ks x h
              · rw [h]; exact HKS.out, by have := HMR.out; have := HLP.out.n; omega⟩
            have HFB : Hid (Fit lo hi ks3 ks3.length vs3.length cs.length) := Lib.hid ⟨HFT.out.lo, HFT.out.hi, fun x hx => HFA.out.ks x (hk3 x hx), by have := HFA.out.n; omega⟩
            have HF2 := Lib.hid (nfind_of 0 nx lo hi la ak2 av2 ac2 ck2 cv2 cc2 ks2 vs2 cs k true W5 HDA.out HFA.out HKS.out p1.2.keys.rise p7 ⟨fun _ => p2, fun _ => rfl⟩)
            have HWO := Lib.hid (fun W (h : Below W5.heap.size W5 W) => without_of 0 nx lo hi la ak2 av2 ac2 ck2 cv2 cc2 ks2 vs2 cs k true W (HDA.out.keep h) HFA.out (by have := HMR.out; have := HLP.out.n; omega) HKS.out ⟨fun _ => ⟨p1, p2⟩, fun _ => rfl⟩)
            have HCA := Lib.hid (fun W (h : Below W5.heap.size W5 W) => check_of 0 nx lo hi la ak2 av2 ac2 ks2.length ck2 vs2.length cv2 cs.length cc2 ks2 vs2 cs fan true W (HDA.out.keep h) HFA.out ⟨fun _ => ⟨HS.out.1, by have := HWP.out.2.2; rw [HM.out] at this; exact this⟩, fun _ => rfl⟩)
            rw [p3] at HF2
            rw [hm3] at HWO
            have HP4 := Lib.hid p4
            have HP5 : Hid (tb = false → (⟨0, nx, lo, hi, la, ks3, vs3, cs⟩ : Nod) = ⟨0, nx, lo, hi, la, ks, vs, cs⟩) := Lib.hid (fun h => p5 (fun g => by have := HTB.out.2 g; rw [h] at this; cases this))
            have HP6 : Hid (tb = true → ks3.length + 1 = ks.length) := Lib.hid (fun h => p6 (HTB.out.1 h))
            have HW5 := Lib.hid hW5
            have HLS : Hid (ks.length ≤ 80 ∧ ks3.length ≤ 81) := Lib.hid (by have := HMR.out; have := HLP.out.n; omega)
            clear hW5 p1 p2 p3 p4 p5 p6 p7 hnd hb5 hm3 hk3 hl3 hv3 q0 q1 q2 q3 q4 q5 q6 q7 hc hk2 HWI HCB HBP
            obtain ⟨a0, a1, a2, a3, a4, a5, a6, a7⟩ := HNA.out.cells
            go_upto_region 7 with fail
            rw [← HW5.out]
            go_wp2_with fail
            refine HF2.out.mono ?_
            rintro e w6 ⟨rfl, hb6⟩
            have HB6 := Lib.hid hb6
            clear hb6 a0 a1 a2 a3 a4 a5 a6 a7 HF2
            obtain ⟨a0, a1, a2, a3, a4, a5, a6, a7⟩ := (HNA.out.below HB6.out).cells
            go_wp2_with fail
            refine (HWO.out _ HB6.out).mono ?_
            rw [show Nod.or true (⟨0, nx, lo, hi, la, ks3, vs3, cs⟩ : Nod) = ⟨0, nx, lo, hi, la, ks3, vs3, cs⟩ from rfl]
            rintro e w7 ⟨ak3, av3, ac3, ck3, cv3, cc3, rfl, hnd3, hb7, _⟩
            obtain ⟨W7, hW7⟩ : ∃ W7, W7 = w7.alloc (.cells #[.int .i64 0, .string lo, .string hi, .bool la, .int .i64 nx, .slice ak3 ks3.length ck3, .slice av3 vs3.length cv3, .slice ac3 cs.length cc3] 26) := ⟨_, rfl⟩
            have HBY := Lib.hid (boxed_below w7 (.cells #[.int .i64 0, .string lo, .string hi, .bool la, .int .i64 nx, .slice ak3 ks3.length ck3, .slice av3 vs3.length cv3, .slice ac3 cs.length cc3] 26))
            rw [← hW7] at HBY
            have HNC : Hid (NB W7 w7.heap.size #[.int .i64 0, .string lo, .string hi, .bool la, .int .i64 nx, .slice ak3 ks3.length ck3, .slice av3 vs3.length cv3, .slice ac3 cs.length cc3]) := Lib.hid (by rw [hW7]; exact NB.new _ _)
            have HB7 := Lib.hid ((HB6.out.trans (hb7.mono HB6.out.size)).trans (HBY.out.mono (Nat.le_trans HB6.out.size hb7.size)))
            have HDC := Lib.hid (hnd3.keep HBY.out)
            have HW7 := Lib.hid hW7
            clear hW7 hnd3 hb7 a0 a1 a2 a3 a4 a5 a6 a7 HWO
            obtain ⟨a0, a1, a2, a3, a4, a5, a6, a7⟩ := (HNA.out.below HB7.out).cells
            obtain ⟨c0, c1, c2, c3, c4, c5, c6, c7⟩ := HNC.out.cells
            go_upto_region 9 with fail
            rw [← HW7.out]
            go_wp2_with fail
            refine (HCA.out _ HB7.out).mono ?_
            rintro e w8 ⟨ca, rfl, _, hca, hb8⟩
            have HB8 := Lib.hid hb8
            have HCC := Lib.hid (check_of 0 nx lo hi la ak3 av3 ac3 ks3.length ck3 vs3.length cv3 cs.length cc3 ks3 vs3 cs fan true w8 (HDC.out.keep HB8.out) HFB.out ⟨fun _ => ⟨HS.out.1, HP4.out⟩, fun _ => rfl⟩)
            clear hb8 a0 a1 a2 a3 a4 a5 a6 a7 c0 c1 c2 c3 c4 c5 c6 c7
            obtain ⟨c0, c1, c2, c3, c4, c5, c6, c7⟩ := (HNC.out.below HB8.out).cells
            go_wp2_with fail
            refine HCC.out.mono ?_
            rintro e w9 ⟨cc9, rfl, _, hcc, hb9⟩
            have HB9 := Lib.hid (HB8.out.trans (hb9.mono HB8.out.size))
            have HBA := Lib.hid (HB7.out.trans (HB9.out.mono HB7.out.size))
            have HBN := Lib.hid (HB5.out.trans (HBA.out.mono HB5.out.size))
            clear hb9 c0 c1 c2 c3 c4 c5 c6 c7
            obtain ⟨c0, c1, c2, c3, c4, c5, c6, c7⟩ := (HNC.out.below HB9.out).cells
            obtain ⟨a0, a1, a2, a3, a4, a5, a6, a7⟩ := (HNA.out.below HBA.out).cells
            obtain ⟨q0, q1, q2, q3, q4, q5, q6, q7⟩ := (HNB.out.below HBN.out).cells
            have HE := Lib.hid (HB.out.trans (HBN.out.mono HB.out.size))
            cases tb with
            | false =>
              have he := HP5.out rfl
              injection he with _ _ _ _ _ e6 e7 _
              subst e6
              subst e7
              have HSA := Lib.hid (nsame_of 0 nx lo hi la ak3 av3 ac3 ks3.length ck3 vs3.length cv3 cs.length cc3 0 nx lo hi la ak av ac ks3.length ck vs3.length cv cs.length cc ks3 vs3 cs ks3 vs3 cs true w9 (HDC.out.keep HB9.out) (HND.out.keep HBN.out) ⟨fun _ => ⟨rfl, rfl, rfl, rfl, rfl, rfl, rfl, rfl⟩, fun _ => rfl⟩)
              go_wp2_with fail
              refine HSA.out.mono ?_
              rintro e w10 ⟨rfl, hb10⟩
              have HE2 := Lib.hid (HE.out.trans (hb10.mono HE.out.size))
              clear hb10 q0 q1 q2 q3 q4 q5 q6 q7 a0 a1 a2 a3 a4 a5 a6 a7 c0 c1 c2 c3 c4 c5 c6 c7
              go_wp2_with fail
              refine (HLV.out _).mono ?_
              rintro e wl ⟨rfl, hbl⟩
              have HBL := Lib.hid (HE2.out.trans (hbl.mono HE2.out.size))
              clear hbl
              go_wp2
              go_ret
              exact ⟨rfl, HBL.out⟩
            | true =>
              have h6 := HP6.out rfl
              have h7 := HLS.out
              have h8 : ((ks3.length : Int) == (ks.length : Int) - 1) = true := by rw [beq_iff_eq]; omega
              go_wp2_with fail
              refine (HLV.out _).mono ?_
              rintro e wl ⟨rfl, hbl⟩
              have HBL := Lib.hid (HE.out.trans (hbl.mono HE.out.size))
              clear hbl
              go_wp2
              go_ret
              exact ⟨rfl, HBL.out⟩
end Go.Proofs.Ytnlghdkgejimpaa
