/- The document's Kid (bowerref10), part and kid (bowerref19). Conditions: sizes that fit. The document's part and kid (bowerref19). Conditions: sizes that fit. -/
import Derived.Test.YtefmnfplipdnmaaWayKit
import Derived.Test.YtefmnfplipdnmaaDowns
namespace Go.Proofs.Ytefmnfplipdnmaa
open Go.RowKit Go.Maps

/-- A kid is told, or none. -/
def KidIs (w w' : World) (e : Ending) (o : Option Int) : Prop := ∃ (x : Int) (b : Bool), e = .returned (.tuple #[.int .i64 x, .bool b]) ∧ o = (if b then some x else none) ∧ Below w.heap.size w w'
def atI (o : Option Nat) : Int := match o with | none => -1 | some a => a
theorem kidP_less {below : Bool} {ks : List ByteArray} {k : ByteArray} {i : Nat} (h : lss (nth ks i).data.toList k.data.toList = true) : kidP below ks k i = true := by
  unfold kidP
  cases below with
  | true => simp only [if_true]; unfold pFind; rw [h]; rfl
  | false => simp only [Bool.false_eq_true, if_false]; unfold pFloor; rw [lss_asymm _ _ h]; rfl
theorem kidP_below {ks : List ByteArray} {k : ByteArray} {i : Nat} (h : lss (nth ks i).data.toList k.data.toList = false) : kidP true ks k i = false := by
  unfold kidP
  simp only [if_true]; unfold pFind; rw [h]; rfl
theorem kidP_eq {ks : List ByteArray} {k : ByteArray} {i : Nat} (h : nth ks i = k) : kidP false ks k i = true := by
  unfold kidP
  simp only [Bool.false_eq_true, if_false]; unfold pFloor; rw [h, lss_irrefl]; rfl
theorem kidP_ne {ks : List ByteArray} {k : ByteArray} {i : Nat} (h : lss (nth ks i).data.toList k.data.toList = false) (hn : nth ks i ≠ k) : kidP false ks k i = false := by
  unfold kidP
  simp only [Bool.false_eq_true, if_false]; unfold pFloor
  cases hl : lss k.data.toList (nth ks i).data.toList with
  | true => rfl
  | false =>
    exfalso
    have e := lss_total _ _ h hl
    exact hn (ByteArray.ext (by rw [← Array.toList_inj]; exact e))
theorem lastI_yes {p : Nat → Bool} {i : Nat} (h : p i = true) : atI (lastI p (i + 1)) = i := by unfold lastI; rw [if_pos h]; rfl
theorem lastI_no {p : Nat → Bool} {i : Nat} (h : p i = false) : atI (lastI p (i + 1)) = atI (lastI p i) := by rw [lastI, if_neg (by rw [h]; simp)]
theorem lastI_lt {p : Nat → Bool} : ∀ {n a : Nat}, lastI p n = some a → a < n
  | 0, _, h => by cases h
  | n + 1, a, h => by
    unfold lastI at h
    split at h
    · injection h with h; omega
    · exact Nat.lt_succ_of_lt (lastI_lt h)

set_option maxHeartbeats 4000000 in
set_option maxRecDepth 100000 in
theorem rkid_any (n : Nod) (ak av ac : Option Addr) (ck cv cc : Nat) (k : ByteArray) (below : Bool) (w : World) (hN : NdAt w ak av ac n.ks.length ck n.vs.length cv n.cs.length cc n.ks n.vs n.cs) (hok : NodOk n) (hk : k.size ≤ 140737488355328) :
    Calls Try.prog 106 #[.agg #[.int .i64 n.lv, .string n.lo, .string n.hi, .bool n.la, .int .i64 n.nx, .slice ak n.ks.length ck, .slice av n.vs.length cv, .slice ac n.cs.length cc], .string k, .bool below] w fun e w' => KidIs w w' e (kidF below n.ks n.cs k) := by
  have hx := boxed_below w (.cells #[.int .i64 n.lv, .string n.lo, .string n.hi, .bool n.la, .int .i64 n.nx, .slice ak n.ks.length ck, .slice av n.vs.length cv, .slice ac n.cs.length cc] 37)
  have n1 := NB.new w #[.int .i64 n.lv, .string n.lo, .string n.hi, .bool n.la, .int .i64 n.nx, .slice ak n.ks.length ck, .slice av n.vs.length cv, .slice ac n.cs.length cc]
  obtain ⟨W1, hW1⟩ : ∃ W, W = w.alloc (.cells #[.int .i64 n.lv, .string n.lo, .string n.hi, .bool n.la, .int .i64 n.nx, .slice ak n.ks.length ck, .slice av n.vs.length cv, .slice ac n.cs.length cc] 37) := ⟨_, rfl⟩
  rw [← hW1] at hx n1
  have HX := Lib.hid hx
  have HW := Lib.hid hW1
  have HN := Lib.hid (hN.keep hx)
  have HL := Lib.hid (fun x W (hx : x ∈ n.ks) => less_any x k W (hok.ks x hx) hk)
  have hb1 := hok.n1
  have hb3 := hok.n3
  obtain ⟨q0, q1, q2, q3, q4, q5, q6, q7⟩ := n1.cells
  have HN1 := Lib.hid n1
  clear hx hW1 n1 hN hok hk
  obtain ⟨nk, hnk⟩ : ∃ m, m = n.ks.length := ⟨_, rfl⟩
  obtain ⟨nc, hnc⟩ : ∃ m, m = n.cs.length := ⟨_, rfl⟩
  obtain ⟨nv, hnv⟩ : ∃ m, m = n.vs.length := ⟨_, rfl⟩
  have HE := Lib.hid (show nk = n.ks.length ∧ nc = n.cs.length ∧ nv = n.vs.length from ⟨hnk, hnc, hnv⟩)
  have HMIN := Lib.hid (show min n.ks.length n.cs.length = min nk nc by rw [hnk, hnc])
  rw [← hnk, ← hnc, ← hnv] at HN HW HN1 ⊢
  rw [← hnk] at q5 hb1
  rw [← hnc] at q7 hb3
  rw [← hnv] at q6
  clear hnk hnc hnv
  go_enter Try.func106, Try.ntmps106
  go_wp2
  rw [← HW.out]
  clear HW
  go_loopw [8, 9] (fun s8 s9 wr => ∃ i : Nat, s8 = .int .i64 (atI (lastI (kidP below n.ks k) i)) ∧ s9 = .int .i64 i ∧ i ≤ min nk nc ∧ Hid (Below W1.heap.size W1 wr)) (fun _ s _ => min nk nc - (intOf s).toNat)
  case atStart => exact ⟨0, rfl, rfl, Nat.zero_le _, Lib.hid (Below.refl _ _)⟩
  case round =>
    obtain ⟨i, rfl, rfl, hi, HB⟩ := hrel
    have HC : Hid (∀ V, Below W1.heap.size W1 V → (V.cell? ⟨w.heap.size, 0, none⟩ = some (.int .i64 n.lv) ∧ V.cell? ⟨w.heap.size, 1, none⟩ = some (.string n.lo) ∧ V.cell? ⟨w.heap.size, 2, none⟩ = some (.string n.hi) ∧ V.cell? ⟨w.heap.size, 3, none⟩ = some (.bool n.la) ∧ V.cell? ⟨w.heap.size, 4, none⟩ = some (.int .i64 n.nx) ∧ V.cell? ⟨w.heap.size, 5, none⟩ = some (.slice ak nk ck) ∧ V.cell? ⟨w.heap.size, 6, none⟩ = some (.slice av nv cv) ∧ V.cell? ⟨w.heap.size, 7, none⟩ = some (.slice ac nc cc))) := Lib.hid (fun V hV => (NB.below HN1.out hV).cells)
    obtain ⟨t0, t1, t2, t3, t4, t5, t6, t7⟩ := HC.out wr HB.out
    obtain ⟨z, hz⟩ : ∃ z, z = atI (lastI (kidP below n.ks k) i) := ⟨_, rfl⟩
    rw [← hz]
    have HZ := Lib.hid hz
    clear hz
    by_cases hlt : i < min nk nc
    · obtain ⟨g, o, rfl, hc⟩ := rd_at (HN.out.k.keep HB.out) (⟨#[]⟩ : ByteArray) i (by omega)
      have hc1 := hc i (by omega)
      have HL1 := Lib.hid (fun W => HL.out (nth n.ks i) W (by
        have hh : i < n.ks.length := by have := HE.out; omega
        rw [nth_eq hh]
        exact List.getElem_mem hh))
      rw [show n.ks.getD i ⟨#[]⟩ = nth n.ks i from rfl] at hc1
      have g1 : (i : Int) < nk := by omega
      have g2 : (i : Int) < nc := by omega
      clear hc q0 q1 q2 q3 q4 q5 q6 q7
      have HXE := Lib.hid (show nth n.ks i = nth n.ks i from rfl)
      obtain ⟨x, hx⟩ : ∃ x, x = nth n.ks i := ⟨_, rfl⟩
      rw [← hx] at hc1 HL1
      have HXX := Lib.hid hx
      clear hx
      cases hl : lss x.data.toList k.data.toList with
      | true =>
        rw [hl] at HL1
        have HY := Lib.hid (lastI_yes (kidP_less (below := below) (by rw [← HXX.out]; exact hl)))
        clear hl
        go_wp2_with fail
        refine (HL1.out _).mono ?_
        rintro e w2 ⟨rfl, hd⟩
        have HB2 := Lib.hid (HB.out.trans ((hd.below w2.heap.size).mono (by rw [hd.size]; exact HB.out.size) |>.mono (Nat.le_refl _)))
        have hdc := hd.cell ⟨g, o + i, none⟩
        rw [hc1] at hdc
        obtain ⟨t0, t1, t2, t3, t4, t5, t6, t7⟩ := HC.out w2 HB2.out
        clear hd hc1
        go_wp2
        go_roundw
        case rel => exact ⟨i + 1, by rw [HY.out], by go_num, by omega, HB2⟩
        case measure => simp [intOf]; omega
      | false =>
        rw [hl] at HL1
        have HLF := Lib.hid hl
        clear hl
        cases below with
        | true =>
          have HY := Lib.hid (lastI_no (kidP_below (by rw [← HXX.out]; exact HLF.out)))
          go_wp2_with fail
          refine (HL1.out _).mono ?_
          rintro e w2 ⟨rfl, hd⟩
          have HB2 := Lib.hid (HB.out.trans ((hd.below w2.heap.size).mono (by rw [hd.size]; exact HB.out.size) |>.mono (Nat.le_refl _)))
          have hdc := hd.cell ⟨g, o + i, none⟩
          rw [hc1] at hdc
          obtain ⟨t0, t1, t2, t3, t4, t5, t6, t7⟩ := HC.out w2 HB2.out
          clear hd hc1
          go_wp2
          go_roundw
          case rel => exact ⟨i + 1, by first | (rw [HY.out, HZ.out]; done) | (rw [HY.out]; done), by go_num, by omega, HB2⟩
          case measure => simp [intOf]; omega
        | false =>
          by_cases he : x = k
          · have HY := Lib.hid (lastI_yes (kidP_eq (k := k) (by rw [← HXX.out]; exact he)))
            have heq := text_eq he
            clear he
            go_wp2_with fail
            refine (HL1.out _).mono ?_
            rintro e w2 ⟨rfl, hd⟩
            have HB2 := Lib.hid (HB.out.trans ((hd.below w2.heap.size).mono (by rw [hd.size]; exact HB.out.size) |>.mono (Nat.le_refl _)))
            have hdc := hd.cell ⟨g, o + i, none⟩
            rw [hc1] at hdc
            obtain ⟨t0, t1, t2, t3, t4, t5, t6, t7⟩ := HC.out w2 HB2.out
            clear hd hc1
            go_wp2
            go_roundw
            case rel => exact ⟨i + 1, by rw [HY.out], by go_num, by omega, HB2⟩
            case measure => simp [intOf]; omega
          · have HY := Lib.hid (lastI_no (kidP_ne (by rw [← HXX.out]; exact HLF.out) (by rw [← HXX.out]; exact he)))
            have heq := text_ne he
            clear he
            go_wp2_with fail
            refine (HL1.out _).mono ?_
            rintro e w2 ⟨rfl, hd⟩
            have HB2 := Lib.hid (HB.out.trans ((hd.below w2.heap.size).mono (by rw [hd.size]; exact HB.out.size) |>.mono (Nat.le_refl _)))
            have hdc := hd.cell ⟨g, o + i, none⟩
            rw [hc1] at hdc
            obtain ⟨t0, t1, t2, t3, t4, t5, t6, t7⟩ := HC.out w2 HB2.out
            clear hd hc1
            go_wp2
            go_roundw
            case rel => exact ⟨i + 1, by first | (rw [HY.out, HZ.out]; done) | (rw [HY.out]; done), by go_num, by omega, HB2⟩
            case measure => simp [intOf]; omega
    · have hz2 : i = min nk nc := by omega
      have hg : ¬ ((i : Int) < nk ∧ (i : Int) < nc) := by omega
      have HLI := Lib.hid (show kidF below n.ks n.cs k = (lastI (kidP below n.ks k) i).map (ni n.cs) by unfold kidF; rw [HMIN.out, hz2])
      have HIM := Lib.hid hz2
      clear q0 q1 q2 q3 q4 q5 q6 q7
      cases hla : lastI (kidP below n.ks k) i with
      | none =>
        have hzz : z = -1 := by rw [HZ.out, hla]; rfl
        have HLA := Lib.hid hla
        subst hzz
        clear hla hz2 hlt hi
        by_cases hgk : (i : Int) < nk
        · have hgc : ¬ (i : Int) < nc := fun h => hg ⟨hgk, h⟩
          clear hg
          go_wp2
          go_ret2
          exact ⟨_, false, rfl, (by rw [HLI.out, HLA.out]; rfl), HX.out.trans (HB.out.mono HX.out.size)⟩
        · clear hg
          go_wp2
          go_ret2
          exact ⟨_, false, rfl, (by rw [HLI.out, HLA.out]; rfl), HX.out.trans (HB.out.mono HX.out.size)⟩
      | some a =>
        have ha := lastI_lt hla
        have hzz : z = (a : Int) := by rw [HZ.out, hla]; rfl
        have HLA := Lib.hid hla
        subst hzz
        obtain ⟨g, o, rfl, hc⟩ := rd_at (HN.out.c.keep HB.out) 0 a (by omega)
        have hc1 := hc a (by omega)
        rw [show n.cs.getD a 0 = ni n.cs a from rfl] at hc1
        have g1 : (a : Int) < nc := by omega
        have HR := Lib.hid (show kidF below n.ks n.cs k = some (ni n.cs a) by rw [HLI.out, HLA.out]; rfl)
        clear hla hc HZ hz2 hlt hi
        generalize ni n.cs a = y at *
        by_cases hgk : (i : Int) < nk
        · have hgc : ¬ (i : Int) < nc := fun h => hg ⟨hgk, h⟩
          clear hg
          go_wp2
          go_ret2
          exact ⟨_, true, rfl, HR.out, HX.out.trans (HB.out.mono HX.out.size)⟩
        · clear hg
          go_wp2
          go_ret2
          exact ⟨_, true, rfl, HR.out, HX.out.trans (HB.out.mono HX.out.size)⟩
set_option maxHeartbeats 1000000 in
theorem rbeneath_any (lo hi : ByteArray) (last : Bool) (k : ByteArray) (w : World) (hl : lo.size ≤ 140737488355328) (hh : hi.size ≤ 140737488355328) (hk : k.size ≤ 140737488355328) :
    Calls Try.prog 104 #[.string lo, .string hi, .bool last, .string k] w fun e w' => e = .returned (.bool (beneathB lo.data.toList hi.data.toList last k.data.toList)) ∧ Drew w w' := by
  have H1 := fun W => Lib.hid (less_any lo k W hl hk)
  have H2 := fun W => Lib.hid (less_any hi k W hh hk)
  unfold beneathB
  cases h1 : lss lo.data.toList k.data.toList with
  | false =>
    rw [h1] at H1
    clear h1
    go_enter Try.func104, Try.ntmps104
    go_wp2_with fail
    refine (H1 _).out.mono ?_
    rintro e w1 ⟨rfl, hd⟩
    go_wp2
    go_ret
    exact ⟨ret_b (by simp), hd⟩
  | true =>
    rw [h1] at H1
    clear h1
    cases last with
    | true =>
      go_enter Try.func104, Try.ntmps104
      go_wp2_with fail
      refine (H1 _).out.mono ?_
      rintro e w1 ⟨rfl, hd⟩
      go_wp2
      go_ret
      exact ⟨ret_b (by simp), hd⟩
    | false =>
      generalize lss hi.data.toList k.data.toList = r at *
      go_enter Try.func104, Try.ntmps104
      go_wp2_with fail
      refine (H1 _).out.mono ?_
      rintro e w1 ⟨rfl, hd⟩
      go_wp2_with fail
      refine (H2 _).out.mono ?_
      rintro e w2 ⟨rfl, hd2⟩
      go_wp2
      go_ret
      exact ⟨ret_b (by simp), hd.trans hd2⟩

end Go.Proofs.Ytefmnfplipdnmaa

namespace Go.Proofs.Ytefmnfplipdnmaa
open Go.RowKit Go.Maps

def PartIs (w w' : World) (e : Ending) (on ay : Bool) : Prop := e = .returned (.tuple #[.bool on, .bool (!on && !ay)]) ∧ Below w.heap.size w w'
set_option maxHeartbeats 4000000 in
set_option maxRecDepth 100000 in
theorem rpart_any (n : Nod) (ak av ac : Option Addr) (ck cv cc : Nat) (kind : Int) (k : ByteArray) (w : World) (hok : NodOk n) (hk : k.size ≤ 140737488355328) :
    Calls Try.prog 66 #[.agg #[.int .i64 n.lv, .string n.lo, .string n.hi, .bool n.la, .int .i64 n.nx, .slice ak n.ks.length ck, .slice av n.vs.length cv, .slice ac n.cs.length cc], .agg #[.int .i64 kind, .string k]] w fun e w' => PartIs w w' e (onF (kindN kind) k n) (astrayF (kindN kind) k n) := by
  obtain ⟨W1, hW1, b1, b2, hx⟩ := bx2 w 37 75 #[.int .i64 n.lv, .string n.lo, .string n.hi, .bool n.la, .int .i64 n.nx, .slice ak n.ks.length ck, .slice av n.vs.length cv, .slice ac n.cs.length cc] #[.int .i64 kind, .string k]
  have HX := Lib.hid hx
  have HW := Lib.hid hW1
  have HIN := Lib.hid (fun W => rinside_any n.lo n.hi n.la k W hok.lo hok.hi hk)
  have HBE := Lib.hid (fun W => rbeneath_any n.lo n.hi n.la k W hok.lo hok.hi hk)
  have HL1 := Lib.hid (fun W => less_any n.lo k W hok.lo hk)
  have HL2 := Lib.hid (fun W => less_any k n.lo W hk hok.lo)
  have HB1 := Lib.hid b1
  have HB2 := Lib.hid b2
  have c0 := b1.cell 0 rfl
  have c1 := b1.cell 1 rfl
  have c2 := b1.cell 2 rfl
  have c3 := b1.cell 3 rfl
  have c4 := b1.cell 4 rfl
  have c5 := b1.cell 5 rfl
  have c6 := b1.cell 6 rfl
  have c7 := b1.cell 7 rfl
  have d0 := b2.cell 0 rfl
  have d1 := b2.cell 1 rfl
  clear hx hW1 b1 b2 hok hk
  by_cases h1 : kind = 1
  · have e1 : kindN kind = 1 := by unfold kindN; rw [if_pos h1]
    rw [e1]
    show Calls _ _ _ _ (fun e w' => PartIs w w' e (beneathB n.lo.data.toList n.hi.data.toList n.la k.data.toList) (!lss n.lo.data.toList k.data.toList))
    subst h1
    clear e1 HL2 HIN
    generalize beneathB n.lo.data.toList n.hi.data.toList n.la k.data.toList = on at *
    generalize lss n.lo.data.toList k.data.toList = ay at *
    cases on with
    | true =>
      go_enter Try.func66, Try.ntmps66
      go_wp2_with fail
      rw [← HW.out]
      clear HW
      refine (HBE.out _).mono ?_
      rintro e w2 ⟨rfl, hd⟩
      have HD2 := Lib.hid (hd.below W1.heap.size)
      have HX2 := Lib.hid (HX.out.trans (HD2.out.mono HX.out.size))
      clear hd c0 c1 c2 c3 c4 c5 c6 c7 d0 d1
      have c1 := (HB1.out.below HD2.out).cell 1 rfl
      have c2 := (HB1.out.below HD2.out).cell 2 rfl
      have c3 := (HB1.out.below HD2.out).cell 3 rfl
      have d1 := (HB2.out.below HD2.out).cell 1 rfl
      go_wp2
      go_ret2
      exact ⟨rfl, HX2.out⟩
    | false =>
      cases ay <;>
      (go_enter Try.func66, Try.ntmps66
       go_wp2_with fail
       rw [← HW.out]
       clear HW
       refine (HBE.out _).mono ?_
       rintro e w2 ⟨rfl, hd⟩
       have HD2 := Lib.hid (hd.below W1.heap.size)
       have HX2 := Lib.hid (HX.out.trans (HD2.out.mono HX.out.size))
       clear hd c0 c1 c2 c3 c4 c5 c6 c7 d0 d1
       have c1 := (HB1.out.below HD2.out).cell 1 rfl
       have c2 := (HB1.out.below HD2.out).cell 2 rfl
       have c3 := (HB1.out.below HD2.out).cell 3 rfl
       have d1 := (HB2.out.below HD2.out).cell 1 rfl
       go_wp2_with fail
       refine (HL1.out _).mono ?_
       rintro e w3 ⟨rfl, hd3⟩
       have HX3 := Lib.hid (HX2.out.trans (hd3.below w.heap.size))
       clear hd3
       go_wp2
       go_ret2
       exact ⟨rfl, HX3.out⟩)
  · by_cases h2 : kind = 2
    · have e1 : kindN kind = 2 := by unfold kindN; rw [if_neg h1, if_pos h2]
      rw [e1]
      show Calls _ _ _ _ (fun e w' => PartIs w w' e n.la false)
      subst h2
      clear e1 HL1 HL2 HIN HBE h1
      go_enter Try.func66, Try.ntmps66
      go_wp2
      rw [← HW.out]
      clear HW
      go_wp2
      go_quiet (fail)
      go_wp2
      go_ret2
      cases n.la <;> exact ⟨rfl, HX.out.trans ((bdn _ _).mono HX.out.size)⟩
    · have e1 : kindN kind = 0 := by unfold kindN; rw [if_neg h1, if_neg h2]
      rw [e1]
      show Calls _ _ _ _ (fun e w' => PartIs w w' e (insideB n.lo.data.toList n.hi.data.toList n.la k.data.toList) (lss k.data.toList n.lo.data.toList))
      clear e1 HL1 HBE
      generalize insideB n.lo.data.toList n.hi.data.toList n.la k.data.toList = on at *
      generalize lss k.data.toList n.lo.data.toList = ay at *
      cases on with
      | true =>
        go_enter Try.func66, Try.ntmps66
        go_wp2_with fail
        rw [← HW.out]
        clear HW
        refine (HIN.out _).mono ?_
        rintro e w2 ⟨rfl, hd⟩
        have HD2 := Lib.hid (hd.below W1.heap.size)
        have HX2 := Lib.hid (HX.out.trans (HD2.out.mono HX.out.size))
        clear hd c0 c1 c2 c3 c4 c5 c6 c7 d0 d1
        have c1 := (HB1.out.below HD2.out).cell 1 rfl
        have c2 := (HB1.out.below HD2.out).cell 2 rfl
        have c3 := (HB1.out.below HD2.out).cell 3 rfl
        have d1 := (HB2.out.below HD2.out).cell 1 rfl
        go_wp2
        go_ret2
        exact ⟨rfl, HX2.out⟩
      | false =>
        cases ay <;>
        (go_enter Try.func66, Try.ntmps66
         go_wp2_with fail
         rw [← HW.out]
         clear HW
         refine (HIN.out _).mono ?_
         rintro e w2 ⟨rfl, hd⟩
         have HD2 := Lib.hid (hd.below W1.heap.size)
         have HX2 := Lib.hid (HX.out.trans (HD2.out.mono HX.out.size))
         clear hd c0 c1 c2 c3 c4 c5 c6 c7 d0 d1
         have c1 := (HB1.out.below HD2.out).cell 1 rfl
         have c2 := (HB1.out.below HD2.out).cell 2 rfl
         have c3 := (HB1.out.below HD2.out).cell 3 rfl
         have d1 := (HB2.out.below HD2.out).cell 1 rfl
         go_wp2_with fail
         refine (HL2.out _).mono ?_
         rintro e w3 ⟨rfl, hd3⟩
         have HX3 := Lib.hid (HX2.out.trans (hd3.below w.heap.size))
         clear hd3
         go_wp2
         go_ret2
         exact ⟨rfl, HX3.out⟩)

set_option maxHeartbeats 4000000 in
set_option maxRecDepth 100000 in
theorem rkid19_any (n : Nod) (ak av ac : Option Addr) (ck cv cc : Nat) (kind : Int) (k : ByteArray) (w : World) (hN : NdAt w ak av ac n.ks.length ck n.vs.length cv n.cs.length cc n.ks n.vs n.cs) (hok : NodOk n) (hk : k.size ≤ 140737488355328) :
    Calls Try.prog 67 #[.agg #[.int .i64 n.lv, .string n.lo, .string n.hi, .bool n.la, .int .i64 n.nx, .slice ak n.ks.length ck, .slice av n.vs.length cv, .slice ac n.cs.length cc], .agg #[.int .i64 kind, .string k]] w fun e w' => KidIs w w' e (kidOf (kindN kind) k n) := by
  obtain ⟨W1, hW1, b1, b2, hx⟩ := bx2 w 37 75 #[.int .i64 n.lv, .string n.lo, .string n.hi, .bool n.la, .int .i64 n.nx, .slice ak n.ks.length ck, .slice av n.vs.length cv, .slice ac n.cs.length cc] #[.int .i64 kind, .string k]
  have HX := Lib.hid hx
  have HW := Lib.hid hW1
  have HK := Lib.hid (fun b => rkid_any n ak av ac ck cv cc k b W1 (hN.keep hx) hok hk)
  have HNC := Lib.hid (hN.c.keep hx)
  have c0 := b1.cell 0 rfl
  have c1 := b1.cell 1 rfl
  have c2 := b1.cell 2 rfl
  have c3 := b1.cell 3 rfl
  have c4 := b1.cell 4 rfl
  have c5 := b1.cell 5 rfl
  have c6 := b1.cell 6 rfl
  have c7 := b1.cell 7 rfl
  have d0 := b2.cell 0 rfl
  have d1 := b2.cell 1 rfl
  have hb3 := hok.n3
  clear hx hW1 b1 b2 hok hk hN
  by_cases h2 : kind = 2
  · have e1 : kindN kind = 2 := by unfold kindN; rw [if_neg (by omega), if_pos h2]
    rw [e1]
    show Calls _ _ _ _ (fun e w' => KidIs w w' e (lastF n.cs))
    subst h2
    clear e1 HK
    by_cases hz : n.cs.length = 0
    · have HL := Lib.hid (show lastF n.cs = none by unfold lastF; rw [if_pos hz])
      clear hb3
      rw [hz] at c7 HNC HW
      generalize hcl : n.cs.length = nc at *
      obtain rfl : nc = 0 := hz
      clear hcl
      go_enter Try.func67, Try.ntmps67
      go_wp2
      rw [← HW.out]
      clear HW
      go_wp2
      go_ret2
      exact ⟨_, false, rfl, HL.out, HX.out⟩
    · obtain ⟨g, o, rfl, hc⟩ := rd_at HNC.out 0 (n.cs.length - 1) (by omega)
      have hc1 := hc (n.cs.length - 1) (by omega)
      have HL := Lib.hid (show lastF n.cs = some (ni n.cs (n.cs.length - 1)) by unfold lastF; rw [if_neg hz])
      rw [show n.cs.getD (n.cs.length - 1) 0 = ni n.cs (n.cs.length - 1) from rfl] at hc1
      obtain ⟨j, hj⟩ : ∃ j : Nat, n.cs.length = j + 1 := ⟨n.cs.length - 1, by omega⟩
      clear hc HNC hz
      rw [hj] at c7 hc1 HW hb3 HL ⊢
      rw [Nat.add_sub_cancel] at hc1 HL
      clear hj
      generalize ni n.cs j = z at *
      have hz1 : ((j + 1 : Nat) : Int) - 1 = j := by omega
      have hz2 : (((j + 1 : Nat) : Int) == 0) = false := by rw [beq_eq_false_iff_ne]; omega
      go_enter Try.func67, Try.ntmps67
      go_upto_region 1 with fail
      rw [← HW.out]
      clear HW
      go_wp2
      go_ret2
      exact ⟨_, true, rfl, HL.out, HX.out⟩
  · have hb2 : ((kind : Int) == 2) = false := beq_eq_false_iff_ne.2 h2
    by_cases h1 : kind = 1
    · have e1 : kindN kind = 1 := by unfold kindN; rw [if_pos h1]
      rw [e1]
      show Calls _ _ _ _ (fun e w' => KidIs w w' e (kidF true n.ks n.cs k))
      have HK1 := Lib.hid (HK.out true)
      subst h1
      clear e1 HK hb3 HNC
      go_enter Try.func67, Try.ntmps67
      go_wp2_with fail
      rw [← HW.out]
      clear HW
      refine HK1.out.mono ?_
      rintro e w2 ⟨x, b, rfl, h3, hb⟩
      have HX2 := Lib.hid (HX.out.trans (hb.mono HX.out.size))
      have H3 := Lib.hid h3
      clear hb h3
      go_wp2
      go_ret2
      exact ⟨x, b, rfl, H3.out, HX2.out⟩
    · have e1 : kindN kind = 0 := by unfold kindN; rw [if_neg h1, if_neg h2]
      rw [e1]
      show Calls _ _ _ _ (fun e w' => KidIs w w' e (kidF false n.ks n.cs k))
      have HK1 := Lib.hid (HK.out false)
      have hb1 : ((kind : Int) == 1) = false := beq_eq_false_iff_ne.2 h1
      clear e1 HK hb3 HNC
      go_enter Try.func67, Try.ntmps67
      go_wp2_with fail
      rw [← HW.out]
      clear HW
      refine HK1.out.mono ?_
      rintro e w2 ⟨x, b, rfl, h3, hb⟩
      have HX2 := Lib.hid (HX.out.trans (hb.mono HX.out.size))
      have H3 := Lib.hid h3
      clear hb h3
      go_wp2
      go_ret2
      exact ⟨x, b, rfl, H3.out, HX2.out⟩
end Go.Proofs.Ytefmnfplipdnmaa
