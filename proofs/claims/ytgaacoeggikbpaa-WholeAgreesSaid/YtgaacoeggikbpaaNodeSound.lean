/- node.soundRange and the document's border: whether a node's range, level and link are as they should be. Condition: texts of at most 2^47 bytes. -/
import Derived.Test.YtgaacoeggikbpaaNodeKids
namespace Go.Proofs.Ytgaacoeggikbpaa
open Go.RowKit

/-- A range, and a link, as they should be. -/
structure RangeP (lo hi : ByteArray) (la : Bool) (nx : Int) : Prop where
  low : lo.size ≤ 64
  last : la = true → hi.size = 0 ∧ nx = -1
  more : la = false → keyB hi = true ∧ lss lo.data.toList hi.data.toList = true ∧ cellB nx = true

theorem empty_yes {k : ByteArray} (h : k.size = 0) : (k.toList == []) = true ∧ (k.toList != []) = false := by
  have : k.toList = [] := by
    rw [ByteArray.toList_eq]
    exact List.eq_nil_of_length_eq_zero (by simpa using h)
  rw [this]; exact ⟨rfl, rfl⟩
theorem empty_no {k : ByteArray} (h : k.size ≠ 0) : (k.toList == []) = false ∧ (k.toList != []) = true := by
  have : k.toList ≠ [] := by
    intro e
    rw [ByteArray.toList_eq] at e
    have := congrArg List.length e
    simp at this
    exact h (by rw [this]; rfl)
  exact ⟨beq_eq_false_iff_ne.2 this, by rw [bne_iff_ne]; exact this⟩

set_option maxHeartbeats 4000000 in
theorem soundRange_any (lv nx : Int) (lo hi : ByteArray) (la : Bool) (ak av ac : Option Addr) (nk ck nv cv nc cc : Nat) (w : World) (hl : lo.size ≤ 140737488355328) (hh : hi.size ≤ 140737488355328) :
    Calls Try.prog 37 #[.agg #[.int .i64 lv, .string lo, .string hi, .bool la, .int .i64 nx, .slice ak nk ck, .slice av nv cv, .slice ac nc cc]] w fun e w' => EveryGives w w' e (RangeP lo hi la nx) := by
  have HB := Lib.hid (boxed_below w (.cells #[.int .i64 lv, .string lo, .string hi, .bool la, .int .i64 nx, .slice ak nk ck, .slice av nv cv, .slice ac nc cc] 38))
  have HNB := Lib.hid (NB.new w #[.int .i64 lv, .string lo, .string hi, .bool la, .int .i64 nx, .slice ak nk ck, .slice av nv cv, .slice ac nc cc])
  have HKL := Lib.hid (fun W => isKey_any lo W)
  have HKH := Lib.hid (fun W => isKey_any hi W)
  have HCM := Lib.hid (fun W => compare_any lo hi W hl hh)
  have HCE := Lib.hid (fun W => isCell_any nx W)
  have hcm := cmp3_neg lo.data.toList hi.data.toList
  have hkl := keyB_iff lo
  clear hl hh
  by_cases h0 : lo.size = 0
  · have y1 := (empty_yes h0).1
    have y2 := (empty_yes h0).2
    have HLE : Hid (lo.size ≤ 64) := Lib.hid (by omega)
    clear h0 hkl HKL
    cases la with
    | true =>
      by_cases hz : hi.size = 0
      · have z1 := (empty_yes hz).1
        have z2 := (empty_yes hz).2
        by_cases hx : nx = -1
        · have x1 : (nx == -1) = true := by rw [hx]; rfl
          have HN : Hid (RangeP lo hi true nx) := Lib.hid ⟨HLE.out, fun _ => ⟨hz, hx⟩, fun h => (by cases h)⟩
          clear hz hx hcm
          go_enter Try.func37, Try.ntmps37
          go_wp2
          go_ret
          exact ⟨true, rfl, ⟨fun _ => HN.out, fun _ => rfl⟩, HB.out⟩
        · have x1 : (nx == -1) = false := beq_eq_false_iff_ne.2 hx
          have HN : Hid (¬ RangeP lo hi true nx) := Lib.hid (fun h => hx (h.last rfl).2)
          clear hz hx hcm
          go_enter Try.func37, Try.ntmps37
          go_wp2
          go_ret
          exact ⟨false, rfl, ⟨fun h => (by cases h), fun h => absurd h HN.out⟩, HB.out⟩
      · have z1 := (empty_no hz).1
        have z2 := (empty_no hz).2
        have HN : Hid (¬ RangeP lo hi true nx) := Lib.hid (fun h => hz (h.last rfl).1)
        clear hz hcm
        go_enter Try.func37, Try.ntmps37
        go_wp2
        go_ret
        exact ⟨false, rfl, ⟨fun h => (by cases h), fun h => absurd h HN.out⟩, HB.out⟩
    | false =>
      cases hkh : keyB hi with
      | false =>
        rw [hkh] at HKH
        have HN : Hid (¬ RangeP lo hi false nx) := Lib.hid (fun h => by have := (h.more rfl).1; rw [hkh] at this; cases this)
        clear hkh hcm
        go_enter Try.func37, Try.ntmps37
        go_wp2_with fail
        refine (HKH.out _).mono ?_
        rintro e w1 ⟨rfl, rfl⟩
        go_wp2
        go_ret
        exact ⟨false, rfl, ⟨fun h => (by cases h), fun h => absurd h HN.out⟩, HB.out⟩
      | true =>
        rw [hkh] at HKH
        cases hls : lss lo.data.toList hi.data.toList with
        | false =>
          have hge : ¬ cmp3 lo.data.toList hi.data.toList < 0 := by rw [hcm, hls]; simp
          have HN : Hid (¬ RangeP lo hi false nx) := Lib.hid (fun h => by have := (h.more rfl).2.1; rw [hls] at this; cases this)
          clear hkh hcm hls
          generalize cmp3 lo.data.toList hi.data.toList = cm at *
          go_enter Try.func37, Try.ntmps37
          go_wp2_with fail
          refine (HKH.out _).mono ?_
          rintro e w1 ⟨rfl, rfl⟩
          go_wp2_with fail
          refine (HCM.out _).mono ?_
          rintro e w1 ⟨rfl, hd⟩
          have HB2 := Lib.hid (HB.out.trans (hd.below _))
          obtain ⟨r0, r1, r2, r3, r4, r5, r6, r7⟩ := (HNB.out.below (hd.below _)).cells
          clear hd
          go_wp2
          go_ret
          exact ⟨false, rfl, ⟨fun h => (by cases h), fun h => absurd h HN.out⟩, HB2.out⟩
        | true =>
          have hge : cmp3 lo.data.toList hi.data.toList < 0 := by rw [hcm, hls]
          cases hce : cellB nx with
          | false =>
            rw [hce] at HCE
            have HN : Hid (¬ RangeP lo hi false nx) := Lib.hid (fun h => by have := (h.more rfl).2.2; rw [hce] at this; cases this)
            clear hkh hcm hls hce
            generalize cmp3 lo.data.toList hi.data.toList = cm at *
            go_enter Try.func37, Try.ntmps37
            go_wp2_with fail
            refine (HKH.out _).mono ?_
            rintro e w1 ⟨rfl, rfl⟩
            go_wp2_with fail
            refine (HCM.out _).mono ?_
            rintro e w1 ⟨rfl, hd⟩
            have HB2 := Lib.hid (HB.out.trans (hd.below _))
            obtain ⟨r0, r1, r2, r3, r4, r5, r6, r7⟩ := (HNB.out.below (hd.below _)).cells
            clear hd
            go_wp2_with fail
            refine (HCE.out _).mono ?_
            rintro e w1 ⟨rfl, rfl⟩
            go_wp2
            go_ret
            exact ⟨false, rfl, ⟨fun h => (by cases h), fun h => absurd h HN.out⟩, HB2.out⟩
          | true =>
            rw [hce] at HCE
            have HN : Hid (RangeP lo hi false nx) := Lib.hid ⟨HLE.out, fun h => (by cases h), fun _ => ⟨hkh, hls, hce⟩⟩
            clear hkh hcm hls hce
            generalize cmp3 lo.data.toList hi.data.toList = cm at *
            go_enter Try.func37, Try.ntmps37
            go_wp2_with fail
            refine (HKH.out _).mono ?_
            rintro e w1 ⟨rfl, rfl⟩
            go_wp2_with fail
            refine (HCM.out _).mono ?_
            rintro e w1 ⟨rfl, hd⟩
            have HB2 := Lib.hid (HB.out.trans (hd.below _))
            obtain ⟨r0, r1, r2, r3, r4, r5, r6, r7⟩ := (HNB.out.below (hd.below _)).cells
            clear hd
            go_wp2_with fail
            refine (HCE.out _).mono ?_
            rintro e w1 ⟨rfl, rfl⟩
            go_wp2
            go_ret
            exact ⟨true, rfl, ⟨fun _ => HN.out, fun _ => rfl⟩, HB2.out⟩
  · have y1 := (empty_no h0).1
    have y2 := (empty_no h0).2
    cases hk : keyB lo with
    | false =>
      rw [hk] at HKL
      have HN : Hid (¬ RangeP lo hi la nx) := Lib.hid (fun h => by have := h.low; have h2 := hkl.2 ⟨by omega, this⟩; rw [hk] at h2; cases h2)
      clear h0 hkl hk hcm
      go_enter Try.func37, Try.ntmps37
      go_wp2_with fail
      refine (HKL.out _).mono ?_
      rintro e w1 ⟨rfl, rfl⟩
      go_wp2
      go_ret
      exact ⟨false, rfl, ⟨fun h => (by cases h), fun h => absurd h HN.out⟩, HB.out⟩
    | true =>
      rw [hk] at HKL
      have HLE : Hid (lo.size ≤ 64) := Lib.hid (hkl.1 hk).2
      clear h0 hkl hk
      cases la with
      | true =>
        by_cases hz : hi.size = 0
        · have z1 := (empty_yes hz).1
          have z2 := (empty_yes hz).2
          by_cases hx : nx = -1
          · have x1 : (nx == -1) = true := by rw [hx]; rfl
            have HN : Hid (RangeP lo hi true nx) := Lib.hid ⟨HLE.out, fun _ => ⟨hz, hx⟩, fun h => (by cases h)⟩
            clear hz hx hcm
            go_enter Try.func37, Try.ntmps37
            go_wp2_with fail
            refine (HKL.out _).mono ?_
            rintro e w1 ⟨rfl, rfl⟩
            go_wp2
            go_ret
            exact ⟨true, rfl, ⟨fun _ => HN.out, fun _ => rfl⟩, HB.out⟩
          · have x1 : (nx == -1) = false := beq_eq_false_iff_ne.2 hx
            have HN : Hid (¬ RangeP lo hi true nx) := Lib.hid (fun h => hx (h.last rfl).2)
            clear hz hx hcm
            go_enter Try.func37, Try.ntmps37
            go_wp2_with fail
            refine (HKL.out _).mono ?_
            rintro e w1 ⟨rfl, rfl⟩
            go_wp2
            go_ret
            exact ⟨false, rfl, ⟨fun h => (by cases h), fun h => absurd h HN.out⟩, HB.out⟩
        · have z1 := (empty_no hz).1
          have z2 := (empty_no hz).2
          have HN : Hid (¬ RangeP lo hi true nx) := Lib.hid (fun h => hz (h.last rfl).1)
          clear hz hcm
          go_enter Try.func37, Try.ntmps37
          go_wp2_with fail
          refine (HKL.out _).mono ?_
          rintro e w1 ⟨rfl, rfl⟩
          go_wp2
          go_ret
          exact ⟨false, rfl, ⟨fun h => (by cases h), fun h => absurd h HN.out⟩, HB.out⟩
      | false =>
        cases hkh : keyB hi with
        | false =>
          rw [hkh] at HKH
          have HN : Hid (¬ RangeP lo hi false nx) := Lib.hid (fun h => by have := (h.more rfl).1; rw [hkh] at this; cases this)
          clear hkh hcm
          go_enter Try.func37, Try.ntmps37
          go_wp2_with fail
          refine (HKL.out _).mono ?_
          rintro e w1 ⟨rfl, rfl⟩
          go_wp2_with fail
          refine (HKH.out _).mono ?_
          rintro e w1 ⟨rfl, rfl⟩
          go_wp2
          go_ret
          exact ⟨false, rfl, ⟨fun h => (by cases h), fun h => absurd h HN.out⟩, HB.out⟩
        | true =>
          rw [hkh] at HKH
          cases hls : lss lo.data.toList hi.data.toList with
          | false =>
            have hge : ¬ cmp3 lo.data.toList hi.data.toList < 0 := by rw [hcm, hls]; simp
            have HN : Hid (¬ RangeP lo hi false nx) := Lib.hid (fun h => by have := (h.more rfl).2.1; rw [hls] at this; cases this)
            clear hkh hcm hls
            generalize cmp3 lo.data.toList hi.data.toList = cm at *
            go_enter Try.func37, Try.ntmps37
            go_wp2_with fail
            refine (HKL.out _).mono ?_
            rintro e w1 ⟨rfl, rfl⟩
            go_wp2_with fail
            refine (HKH.out _).mono ?_
            rintro e w1 ⟨rfl, rfl⟩
            go_wp2_with fail
            refine (HCM.out _).mono ?_
            rintro e w1 ⟨rfl, hd⟩
            have HB2 := Lib.hid (HB.out.trans (hd.below _))
            obtain ⟨r0, r1, r2, r3, r4, r5, r6, r7⟩ := (HNB.out.below (hd.below _)).cells
            clear hd
            go_wp2
            go_ret
            exact ⟨false, rfl, ⟨fun h => (by cases h), fun h => absurd h HN.out⟩, HB2.out⟩
          | true =>
            have hge : cmp3 lo.data.toList hi.data.toList < 0 := by rw [hcm, hls]
            cases hce : cellB nx with
            | false =>
              rw [hce] at HCE
              have HN : Hid (¬ RangeP lo hi false nx) := Lib.hid (fun h => by have := (h.more rfl).2.2; rw [hce] at this; cases this)
              clear hkh hcm hls hce
              generalize cmp3 lo.data.toList hi.data.toList = cm at *
              go_enter Try.func37, Try.ntmps37
              go_wp2_with fail
              refine (HKL.out _).mono ?_
              rintro e w1 ⟨rfl, rfl⟩
              go_wp2_with fail
              refine (HKH.out _).mono ?_
              rintro e w1 ⟨rfl, rfl⟩
              go_wp2_with fail
              refine (HCM.out _).mono ?_
              rintro e w1 ⟨rfl, hd⟩
              have HB2 := Lib.hid (HB.out.trans (hd.below _))
              obtain ⟨r0, r1, r2, r3, r4, r5, r6, r7⟩ := (HNB.out.below (hd.below _)).cells
              clear hd
              go_wp2_with fail
              refine (HCE.out _).mono ?_
              rintro e w1 ⟨rfl, rfl⟩
              go_wp2
              go_ret
              exact ⟨false, rfl, ⟨fun h => (by cases h), fun h => absurd h HN.out⟩, HB2.out⟩
            | true =>
              rw [hce] at HCE
              have HN : Hid (RangeP lo hi false nx) := Lib.hid ⟨HLE.out, fun h => (by cases h), fun _ => ⟨hkh, hls, hce⟩⟩
              clear hkh hcm hls hce
              generalize cmp3 lo.data.toList hi.data.toList = cm at *
              go_enter Try.func37, Try.ntmps37
              go_wp2_with fail
              refine (HKL.out _).mono ?_
              rintro e w1 ⟨rfl, rfl⟩
              go_wp2_with fail
              refine (HKH.out _).mono ?_
              rintro e w1 ⟨rfl, rfl⟩
              go_wp2_with fail
              refine (HCM.out _).mono ?_
              rintro e w1 ⟨rfl, hd⟩
              have HB2 := Lib.hid (HB.out.trans (hd.below _))
              obtain ⟨r0, r1, r2, r3, r4, r5, r6, r7⟩ := (HNB.out.below (hd.below _)).cells
              clear hd
              go_wp2_with fail
              refine (HCE.out _).mono ?_
              rintro e w1 ⟨rfl, rfl⟩
              go_wp2
              go_ret
              exact ⟨true, rfl, ⟨fun _ => HN.out, fun _ => rfl⟩, HB2.out⟩

/-- What the document's border asks. -/
def BorderP (lv nx : Int) (lo hi : ByteArray) (la : Bool) : Prop := (0 ≤ lv ∧ lv ≤ 13) ∧ RangeP lo hi la nx

end Go.Proofs.Ytgaacoeggikbpaa
