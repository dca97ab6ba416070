/- The law SortedApart, walked: it returns true, for any row of numbers and any two numbers; nothing that was there has turned. Condition: the numbers are ints. -/
import Derived.Test.YtajheohdhiojcabSortLives
import Derived.Test.YtajheohdhiojcabOwnFacts
namespace Go.Proofs.Ytajheohdhiojcab
open Go.RowKit

theorem empty_own (w : World) : (w.alloc (.cells #[] 3)).ownsRow w.heap.size 3 1 (.slice (some ⟨w.heap.size, 0, none⟩) 0 0) 0 [] :=
  World.ownsRow_lit w #[] 0 (Nat.le_refl _) (by decide) rfl

theorem infoRow : (Try.prog.info? 22).map (fun i => (i.zero, i.size, i.bytes)) = some (some (.slice none 0 0), 1, 24) := by kernel_rfl

/-- The five rows: each lies in a block of its own, from B on. -/
def Five (w : World) (B : Nat) (ms : List (Value × List Int)) : Prop := ∀ i (h : i < ms.length), w.ownsRow B 3 1 ms[i].1 ms[i].2.length (vals ms[i].2) ∧ ms[i].2.length ≤ 1000

theorem Five.keep {w w' : World} {B : Nat} {ms : List (Value × List Int)} (h : Five w B ms) (hb : Below w.heap.size w w') : Five w' B ms := fun i hi => ⟨own_keep (h i hi).1 hb, (h i hi).2⟩

theorem Five.add {w : World} {B C : Nat} {ms : List (Value × List Int)} (h : Five w B ms) {v : Value} {zs : List Int} (hv : w.ownsRow C 3 1 v zs.length (vals zs)) (hBC : B ≤ C) (hl : zs.length ≤ 1000) : Five w B (ms ++ [(v, zs)]) := by
  intro i hi
  by_cases hlt : i < ms.length
  · rw [List.getElem_append_left hlt]
    exact h i hlt
  · have : i = ms.length := by simp at hi; omega
    subst this
    rw [List.getElem_append_right (Nat.le_refl _)]
    simp only [Nat.sub_self, List.getElem_cons_zero]
    refine ⟨⟨hv.1, ?_⟩, hl⟩
    rcases hv.2 with hn | ⟨g, cap, cur, e, hb, rest⟩
    · exact Or.inl hn
    · exact Or.inr ⟨g, cap, cur, e, by omega, rest⟩

theorem Five.nil (w : World) (B : Nat) : Five w B [] := fun i hi => by simp at hi

/-- The copies: the first k of the five, in rows of their own from C on. -/
def Copies (w : World) (C : Nat) (ms : List (Value × List Int)) (cs : List Value) : Prop := ∀ t (h : t < cs.length) (h2 : t < ms.length), w.ownsRow C 3 1 cs[t] ms[t].2.length (vals ms[t].2)

theorem one_news (w : World) (v : Value) (t : TypeId) : ∀ j u, [v][j]? = some u → (w.alloc (.cells #[v] t)).cell? ((⟨w.heap.size, 0, none⟩ : Addr).add j) = some u := by
  intro j u hj
  obtain ⟨hlt, e⟩ := List.getElem?_eq_some_iff.1 hj
  have : j = 0 := by simp at hlt; omega
  subst this
  have hu : v = u := by simpa using e
  subst hu
  rw [show (⟨w.heap.size, 0, none⟩ : Addr).add 0 = ⟨w.heap.size, 0, none⟩ by simp [Addr.add], World.cell?_alloc_at _ _ _ _ (by simp)]
  rfl

theorem kept_away {w w' : World} {base n : Nat} {e : TypeId} {v : Value} {xs : List Value} {row : Option Nat} (h : w.ownsRow base e 1 v n xs) (hG : w.grownBy w' row) (hr : ∀ k, row = some k → k < base) : w'.ownsRow base e 1 v n xs := by
  refine h.kept hG ?_
  cases row with
  | none =>
    cases hv : v.ownBlock with
    | none => exact Or.inl rfl
    | some k => exact Or.inr (by simp)
  | some k => exact own_above h (hr k rfl)

theorem vals_set (ys : List Int) (k : Nat) (z : Int) : vals (ys.set k z) = (vals ys).set k (.int .i64 z) := by unfold vals; rw [List.map_set]

theorem own_base {w : World} {B C n : Nat} {e : TypeId} {v : Value} {xs : List Value} (h : w.ownsRow C e 1 v n xs) (hBC : B ≤ C) : w.ownsRow B e 1 v n xs := by
  refine ⟨h.1, ?_⟩
  rcases h.2 with hn | ⟨g, cap, cur, e, hb, rest⟩
  · exact Or.inl hn
  · exact Or.inr ⟨g, cap, cur, e, by omega, rest⟩

/-- A copy more: what was copied stays, the new one is there, and nothing below has turned. -/
theorem copies_step {w7 wr w8 w9 : World} {C k M : Nat} {ms : List (Value × List Int)} {cs : List Value} {u x : Value} {Z : List Int} (hb : Below C w7 wr) (hC : C ≤ wr.heap.size)
    (hU : wr.ownsRow C 22 1 u k cs) (hCo : Copies wr C ms cs) (BW : Below wr.heap.size wr w8) (O8 : w8.ownsRow wr.heap.size 3 1 x M (vals Z)) (hg : (w8.alloc (.cells #[x] 22)).grownBy w9 u.ownBlock) :
    Copies w9 C ms cs ∧ w9.ownsRow C 3 1 x M (vals Z) ∧ Below C w7 w9 := by
  have BA : Below wr.heap.size wr (w8.alloc (.cells #[x] 22)) := BW.alloc BW.size _
  have hU2 := own_keep hU BA
  refine ⟨fun t h h2 => ?_, ?_, ?_⟩
  · have h3 := own_keep (hCo t h h2) BA
    exact h3.kept hg (own_apart h3 hU2 (by decide))
  · have h3 := own_keep (own_base O8 hC) (one_alloc w8 (.cells #[x] 22)).2
    exact h3.kept hg (own_apart h3 hU2 (by decide))
  · have hs := BA.size
    exact (hb.trans (BA.mono hC)).grown hg (by omega) (fun j hj => (hU2.lt j hj).1)

set_option maxHeartbeats 4000000 in
set_option maxRecDepth 100000 in
theorem sortedApart_short (ao : Option Addr) (n c : Nat) (zs : List Int) (a x : Int) (w : World) (hr : Rd w (.slice ao n c) (vals zs)) (hA : ao = none → c = 0) (hn : n ≤ 100) :
    Calls Try.prog 5 #[.slice ao n c, .int .i64 a, .int .i64 x] w fun e w' => e = .returned (.bool true) ∧ Below w.heap.size w w' := by
  have HR := Lib.hid (hr.keep (one_alloc w (.cells #[] 3)).2)
  have hi0 := hr.ints
  have hzl := hi0.1
  have hnc := hi0.2.1
  have hcb := hi0.2.2
  obtain ⟨i0, hi, hz0, hz1, hz2⟩ := info_parts infoInt
  have HI := Lib.hid (show _ ∧ _ ∧ _ ∧ _ from ⟨hi, hz0, hz1, hz2⟩)
  obtain ⟨i1, hj, hy0, hy1, hy2⟩ := info_parts infoRow
  have HJ := Lib.hid (show _ ∧ _ ∧ _ ∧ _ from ⟨hj, hy0, hy1, hy2⟩)
  have HA := Lib.hid hA
  have HV := fun W => Lib.hid (lives04 W)
  have G1 := fun v W (h : Rd W v (vals zs)) => addU v a x zs W h (by omega)
  have G2 := fun v W (h : Rd W v (vals zs)) => cutU v a zs W h (by omega)
  have G3 := fun v W (h : Rd W v (vals zs)) => setU v a x zs W h (by omega)
  have G4 := fun v W (h : Rd W v (vals zs)) => partU v a zs.length zs W h (by omega)
  have G5 := fun v W (h : Rd W v (vals zs)) => joinU v zs W h (by omega)
  rw [hzl] at G4 G5
  have K1 := Lib.hid G1
  have K2 := Lib.hid G2
  have K3 := Lib.hid G3
  have K4 := Lib.hid G4
  have K5 := Lib.hid G5
  have HZL := Lib.hid hzl
  clear hi0 hi hz0 hz1 hz2 hj hy0 hy1 hy2 hA hr hzl G1 G2 G3 G4 G5
  go_enter Try.func5, Try.ntmps5
  go_wp2_with ((with_reducible show wpList _ _ _ (⟨some 30, _, _, _, _, _⟩ :: _) _ _); refine wpList_append_row _ rfl (.tmp 28) (.tmp 29) 22 rfl w.heap.size 3 i0 (.int .i64 0) 8 Try.underlying22 HI.out.1 HI.out.2.1 HI.out.2.2.1 HI.out.2.2.2 rfl (.slice (some ⟨w.heap.size, 0, none⟩) 0 0) 0 [] rfl (empty_own w) ao n c (vals zs) rfl HA.out HR.out (vals_one _) (by unfold maxLen; omega) (by omega) (by simp) ?_; intro v1 w1 hown1 hgrow1)
  have hown := hown1
  rw [Nat.zero_add, List.nil_append] at hown
  have R1 := Lib.hid (rd_of_owns hown)
  have O1 := Lib.hid hown
  have B1 := Lib.hid ((one_alloc w (.cells #[] 3)).2.grown hgrow1 (by simp) (fun k hk => by simp [Value.ownBlock] at hk; omega))
  obtain ⟨a1, c1, rfl, _⟩ := own_open hown
  clear hown hown1 hgrow1
  go_wp2_with fail
  refine (K1.out _ _ R1.out).mono ?_
  rintro e w2 ⟨va, ba, za, rfl, hla, hoa, hb2⟩
  have F2 := Lib.hid ((Five.nil w2 w1.heap.size).add hoa (Nat.le_refl _) hla)
  obtain ⟨aa, ca, rfl, _⟩ := own_open hoa
  have R2 := Lib.hid (R1.out.keep hb2)
  have O2 := Lib.hid (own_keep O1.out hb2)
  have B2 := Lib.hid (B1.out.trans (hb2.mono B1.out.size))
  have S2 := Lib.hid hb2.size
  clear hoa hb2
  go_wp2_with fail
  refine (K2.out _ _ R2.out).mono ?_
  rintro e w3 ⟨vb, bb, zb, rfl, hlb, hob, hb3⟩
  have F3 := Lib.hid ((F2.out.keep hb3).add hob S2.out hlb)
  obtain ⟨ab, cb, rfl, _⟩ := own_open hob
  have R3 := Lib.hid (R2.out.keep hb3)
  have O3 := Lib.hid (own_keep O2.out hb3)
  have B3 := Lib.hid (B2.out.trans (hb3.mono B2.out.size))
  have S3 := Lib.hid (Nat.le_trans S2.out hb3.size)
  clear hob hb3
  go_wp2_with fail
  refine (K3.out _ _ R3.out).mono ?_
  rintro e w4 ⟨vc, bc, zc, rfl, hlc, hoc, hb4⟩
  have F4 := Lib.hid ((F3.out.keep hb4).add hoc S3.out hlc)
  obtain ⟨ac, cc, rfl, _⟩ := own_open hoc
  have R4 := Lib.hid (R3.out.keep hb4)
  have O4 := Lib.hid (own_keep O3.out hb4)
  have B4 := Lib.hid (B3.out.trans (hb4.mono B3.out.size))
  have S4 := Lib.hid (Nat.le_trans S3.out hb4.size)
  clear hoc hb4
  go_wp2_with fail
  refine (K4.out _ _ R4.out).mono ?_
  rintro e w5 ⟨vp, zp, rfl, hlp, hop, hb5⟩
  have F5 := Lib.hid ((F4.out.keep hb5).add hop S4.out hlp)
  obtain ⟨ap, cp, rfl, _⟩ := own_open hop
  have R5 := Lib.hid (R4.out.keep hb5)
  have O5 := Lib.hid (own_keep O4.out hb5)
  have B5 := Lib.hid (B4.out.trans (hb5.mono B4.out.size))
  have S5 := Lib.hid (Nat.le_trans S4.out hb5.size)
  clear hop hb5
  go_wp2_with fail
  refine (K5.out _ _ R5.out).mono ?_
  rintro e w6 ⟨gj, rfl, hoj, hb6⟩
  have hoj2 : w6.ownsRow w5.heap.size 3 1 (.slice (some ⟨gj, 0, none⟩) n n) zs.length (vals zs) := by rw [HZL.out]; exact hoj
  have F6 := Lib.hid ((F5.out.keep hb6).add hoj2 S5.out (by have := HZL.out; omega))
  have O6 := Lib.hid (own_keep O5.out hb6)
  have B6 := Lib.hid (B5.out.trans (hb6.mono B5.out.size))
  have S6 := Lib.hid (Nat.le_trans S5.out hb6.size)
  clear hoj hoj2 hb6
  go_wp2
  generalize hms : ([] ++ [(Value.slice aa za.length ca, za)] ++ [(Value.slice ab zb.length cb, zb)] ++ [(Value.slice ac zc.length cc, zc)] ++ [(Value.slice ap zp.length cp, zp)] ++ [(Value.slice (some ⟨gj, 0, none⟩) n n, zs)] : List (Value × List Int)) = ms at *
  have hm5 : ms.length = 5 := by rw [← hms]; rfl
  have hmw : ms.map (·.1) = [Value.slice aa za.length ca, Value.slice ab zb.length cb, Value.slice ac zc.length cc, Value.slice ap zp.length cp, Value.slice (some ⟨gj, 0, none⟩) n n] := by rw [← hms]; rfl
  clear hms
  have hall := (one_alloc w6 (.cells #[Value.slice aa za.length ca, Value.slice ab zb.length cb, Value.slice ac zc.length cc, Value.slice ap zp.length cp, Value.slice (some ⟨gj, 0, none⟩) n n] 22))
  generalize hw7 : w6.alloc (.cells #[Value.slice aa za.length ca, Value.slice ab zb.length cb, Value.slice ac zc.length cc, Value.slice ap zp.length cp, Value.slice (some ⟨gj, 0, none⟩) n n] 22) = w7 at *
  have hs7 : w7.heap.size = w6.heap.size + 1 := by rw [← hw7]; simp
  have A7 : Hid (Whole w7 22 w6.heap.size (ms.map (·.1))) := Lib.hid (by rw [hmw]; exact hall.1)
  have F7 := Lib.hid (F6.out.keep hall.2)
  have O7 := Lib.hid (own_keep O6.out hall.2)
  have B7 := Lib.hid (B6.out.trans (hall.2.mono B6.out.size))
  have HM5 := Lib.hid hm5
  have HS7 := Lib.hid hs7
  clear hall hw7 hmw hm5 hs7
  go_loopw [17, 66] (fun u i wr => ∃ (k : Nat) (cs : List Value), i = .int .i64 k ∧ k ≤ 5 ∧ Hid (cs.length = k) ∧ Hid (wr.ownsRow w7.heap.size 22 1 u k cs) ∧ Hid (Copies wr w7.heap.size ms cs) ∧ Hid (Below w7.heap.size w7 wr)) (fun _ i _ => 5 - (intOf i).toNat)
  case atStart => exact ⟨0, [], rfl, by omega, Lib.hid rfl, Lib.hid (World.ownsRow_nil _ _ _ _), Lib.hid (fun t h _ => by simp at h), Lib.hid (Below.refl _ _)⟩
  case round =>
    obtain ⟨k, cs, rfl, hk, hcl, hU, hC, hb⟩ := hrel
    by_cases hlt : k < 5
    · have hkm : k < ms.length := by have := HM5.out; omega
      have hF := F7.out k hkm
      obtain ⟨am, cm, hv, hnil⟩ := own_open hF.1
      have hcell : wr.cell? ⟨w6.heap.size, k, none⟩ = some (.slice am ms[k].2.length cm) := by
        rw [(A7.out.keep hb.out).cell, ← hv, List.getElem?_map, List.getElem?_eq_getElem hkm]; rfl
      have hM := hF.2
      have hrow := own_keep (own_keep hF.1 hb.out) (one_alloc wr (.cells #[] 3)).2
      rw [hv] at hrow
      have ROW := Lib.hid hrow
      have HNIL := Lib.hid hnil
      have HCP := Lib.hid (fun (W : World) (v : Value) (cs' : List Value) (hc : Copies W w7.heap.size ms cs) (hl : cs.length = k) (h : W.ownsRow w7.heap.size 3 1 v ms[k].2.length (vals ms[k].2)) => (show Copies W w7.heap.size ms (cs ++ [v]) from fun t ht h2 => by
        by_cases hlt : t < cs.length
        · rw [List.getElem_append_left hlt]
          exact hc t hlt h2
        · have : t = cs.length := by simp at ht; omega
          subst this
          rw [List.getElem_append_right (Nat.le_refl _)]
          simp only [Nat.sub_self, List.getElem_cons_zero, hl]
          exact h))
      clear hF hv hrow hnil
      generalize ms[k].2 = Z at *
      generalize hZM : Z.length = M at *
      have HZM := Lib.hid hZM
      clear hZM
      go_wp2_with (first
        | ((with_reducible show wpList _ _ _ (⟨some 73, _, _, _, _, _⟩ :: _) _ _); refine wpList_append_row _ rfl (.tmp 71) (.tmp 72) 22 rfl wr.heap.size 3 i0 (.int .i64 0) 8 Try.underlying22 HI.out.1 HI.out.2.1 HI.out.2.2.1 HI.out.2.2.2 rfl (.slice (some ⟨wr.heap.size, 0, none⟩) 0 0) 0 [] rfl (empty_own wr) am M cm (vals Z) rfl HNIL.out (rd_of_owns ROW.out) (vals_one _) (by unfold maxLen; omega) (by omega) (by simp) ?_; intro v8 w8 hown8 hgrow8; rw [Nat.zero_add, List.nil_append] at hown8; have O8 := Lib.hid hown8; have BW := Lib.hid ((one_alloc wr (.cells #[] 3)).2.grown hgrow8 (by simp) (fun k hk => by simp [Value.ownBlock] at hk; omega)); obtain ⟨a8, c8, rfl, _⟩ := own_open hown8; clear hown8 hgrow8)
        | ((with_reducible show wpList _ _ _ (⟨some 75, _, _, _, _, _⟩ :: _) _ _); refine wpList_append_own _ rfl (.tmp 70) (.tmp 74) 40 rfl w7.heap.size 22 i1 (.slice none 0 0) 1 24 Try.underlying40 HJ.out.1 HJ.out.2.1 HJ.out.2.2.1 HJ.out.2.2.2 rfl (by decide) _ k cs rfl (own_keep hU.out (BW.out.alloc BW.out.size _)) ⟨w8.heap.size, 0, none⟩ 1 1 [.slice a8 M c8] rfl rfl (one_news w8 _ _) (by intro u hu; simp at hu; subst hu; rfl) (by unfold maxLen; omega) (by omega) (Nat.le_trans hb.out.size (Nat.le_trans BW.out.size (by simp))) ?_; intro u9 w9 hown9 hgrow9 _; have hstep := copies_step hb.out hb.out.size hU.out hC.out BW.out O8.out hgrow9; have HST := Lib.hid hstep; have O9 := Lib.hid hown9; clear hstep hown9 hgrow9))
      go_roundw
      case rel => exact ⟨k + 1, cs ++ [.slice a8 M c8], by go_num, by omega, Lib.hid (by rw [List.length_append, hcl.out]; rfl), O9, Lib.hid (HCP.out w9 _ cs HST.out.1 hcl.out HST.out.2.1), Lib.hid HST.out.2.2⟩
      case measure => simp [intOf]; omega
    · obtain rfl : k = 5 := by omega
      obtain ⟨au, cu, rfl, _⟩ := own_open hU.out
      obtain ⟨gu, rfl, _, _, _⟩ := own_at hU.out 0 (by omega)
      have F9 := Lib.hid (F7.out.keep hb.out)
      have A9 := Lib.hid (A7.out.keep hb.out)
      have O9 := Lib.hid (own_keep O7.out hb.out)
      have B9 := Lib.hid (B7.out.trans (hb.out.mono B7.out.size))
      have HOB := Lib.hid (O1.out.lt)
      clear hlt
      obtain ⟨wu, rfl⟩ : ∃ wu : World, wu = wr := ⟨_, rfl⟩
      go_wp2
      go_loopw [79] (fun s wr2 => ∃ (k : Nat) (ys : List Int), s = .int .i64 k ∧ k ≤ n ∧ Hid (wr2.ownsRow w.heap.size 3 1 (.slice a1 n c1) n (vals ys)) ∧ Hid (wu.grownBy wr2 (Value.slice a1 n c1).ownBlock)) (fun s _ => n - (intOf s).toNat)
      case atStart => exact ⟨0, zs, rfl, Nat.zero_le _, O9, Lib.hid (World.grownBy.refl _ _)⟩
      case round =>
        obtain ⟨k, ys, rfl, hk2, hY, hG⟩ := hrel
        by_cases hlt : k < n
        · obtain ⟨g0, rfl, _, _, hc0⟩ := own_at hY.out k hlt
          have hyl := own_len hY.out
          rw [vals_len] at hyl
          have hc1 := hc0 k hlt
          rw [vals_get (by omega)] at hc1
          have hf1 := hY.out.frozenAt k
          clear hc0 hyl
          have HST := Lib.hid (fun z => hY.out.stored k (.int .i64 z))
          generalize nti ys k = z at *
          go_wp2
          go_roundw
          case rel => exact ⟨k + 1, ys.set k (wrap64 (z + 1)), by go_num, by omega, Lib.hid (by rw [vals_set]; exact (HST.out _).1), Lib.hid (grown_trans hG.out (HST.out _).2)⟩
          case measure => simp [intOf]; omega
        · have F10 : Hid (Five wr w1.heap.size ms) := Lib.hid (fun i hi => ⟨kept_away (F9.out i hi).1 hG.out (fun k hk => (HOB.out k hk).2), (F9.out i hi).2⟩)
          have A10 : Hid (Whole wr 22 w6.heap.size (ms.map (·.1))) := Lib.hid (by
            unfold Whole
            rw [hG.out.block _ (lt_of_block A9.out) (fun e => by have := (HOB.out _ e.symm).2; have := S6.out; omega)]
            exact A9.out)
          have hCB : w1.heap.size ≤ w7.heap.size := by have := S6.out; have := HS7.out; omega
          have U10 := Lib.hid (kept_away hU.out hG.out (fun k hk => by have := (HOB.out k hk).2; omega))
          have C10 : Hid (Copies wr w7.heap.size ms cs) := Lib.hid (fun t h h2 => kept_away (hC.out t h h2) hG.out (fun k hk => by have := (HOB.out k hk).2; omega))
          have B10 := Lib.hid (B9.out.grown hG.out B9.out.size (fun k hk => (HOB.out k hk).1))
          clear hCB
          obtain ⟨wv, rfl⟩ : ∃ wv : World, wv = wr := ⟨_, rfl⟩
          go_wp2
          go_loopw [91] (fun s w3 => ∃ (k : Nat), s = .int .i64 k ∧ k ≤ 5 ∧ Drew wv w3) (fun s _ => 5 - (intOf s).toNat)
          case atStart => exact ⟨0, rfl, Nat.zero_le _, Drew.refl wv⟩
          case round =>
            obtain ⟨k, rfl, hk3, hd⟩ := hrel
            by_cases hlt : k < 5
            · have hkm : k < ms.length := by have := HM5.out; omega
              have hkc : k < cs.length := by have := hcl.out; omega
              have hF := F10.out k hkm
              obtain ⟨am, cm, hv, _⟩ := own_open hF.1
              have hcell : wr.cell? ⟨w6.heap.size, k, none⟩ = some (.slice am ms[k].2.length cm) := by
                rw [hd.cell0, A10.out.cell, ← hv, List.getElem?_map, List.getElem?_eq_getElem hkm]; rfl
              have hM := hF.2
              have hm1 := hF.1
              rw [hv] at hm1
              have hcc := C10.out k hkc hkm
              obtain ⟨ak, ck, hvk, _⟩ := own_open hcc
              rw [hvk] at hcc
              have hcu : wv.cell? ⟨gu, k, none⟩ = some (.slice ak ms[k].2.length ck) := by
                obtain ⟨gu', e, _, _, hx⟩ := own_at U10.out k hlt
                injection e with e
                injection e with e _ _
                subst e
                rw [hx k hlt, List.getElem?_eq_getElem hkc, hvk]
              have M1 := Lib.hid hm1
              have M2 := Lib.hid hcc
              have M3 := Lib.hid hcu
              clear hF hv hm1 hcc hvk hcu
              generalize ms[k].2 = Z at *
              obtain ⟨M, hZM⟩ : ∃ M, M = Z.length := ⟨_, rfl⟩
              rw [← hZM] at hcell hM M1 M2 M3
              have HZM := Lib.hid hZM
              clear hZM
              obtain ⟨wo, rfl⟩ : ∃ wo : World, wo = wr := ⟨_, rfl⟩
              go_wp2
              go_loopw [98] (fun s w4 => ∃ (q : Nat), s = .int .i64 q ∧ q ≤ M ∧ Drew wv w4) (fun s _ => M - (intOf s).toNat)
              case atStart => exact ⟨0, rfl, Nat.zero_le _, hd⟩
              case round =>
                obtain ⟨q, rfl, hq, hd4⟩ := hrel
                by_cases hql : q < M
                · obtain ⟨gm, rfl, _, _, hx1⟩ := own_at M1.out q hql
                  obtain ⟨gk, rfl, _, _, hx2⟩ := own_at M2.out q hql
                  have x1 := (hd4.cell0 ⟨gm, q, none⟩).trans (hx1 q hql)
                  have x2 := (hd4.cell0 ⟨gk, q, none⟩).trans (hx2 q hql)
                  have x3 := (hd4.cell0 ⟨gu, k, none⟩).trans M3.out
                  rw [vals_get (by have := HZM.out; omega)] at x1 x2
                  clear hx1 hx2
                  generalize nti Z q = zq at *
                  have i1 : (q : Int) < M := by omega
                  have i2 : (k : Int) < 5 := by omega
                  go_wp2
                  go_quiet (fail)
                  go_wp2
                  go_roundw
                  case rel => exact ⟨q + 1, by go_num, by omega, hd4.trans ⟨_, rfl⟩⟩
                  case measure => simp [intOf]; omega
                · go_wp2
                  go_roundw
                  case rel => exact ⟨k + 1, by go_num, by omega, hd4⟩
                  case measure => simp [intOf]; omega
            · go_wp2_with fail
              refine (HV _).out.mono ?_
              rintro e wz ⟨rfl, hbz⟩
              have Bz := B10.out.trans (hd.below0 _)
              go_wp2
              go_ret
              exact ⟨rfl, Bz.trans (hbz.mono Bz.size)⟩

set_option maxHeartbeats 1000000 in
set_option maxRecDepth 100000 in
theorem sortedApart_long (ao : Option Addr) (n c : Nat) (a x : Int) (w : World) (hn : 100 < n) :
    Calls Try.prog 5 #[.slice ao n c, .int .i64 a, .int .i64 x] w fun e w' => e = .returned (.bool true) ∧ Below w.heap.size w w' := by
  have HV := fun W => Lib.hid (lives04 W)
  have g1 : (100 : Int) < n := by omega
  go_enter Try.func5, Try.ntmps5
  go_wp2_with fail
  refine (HV _).out.mono ?_
  rintro e w7 ⟨rfl, hb7⟩
  go_wp2
  go_ret
  exact ⟨rfl, hb7⟩

theorem sortedApart_any (ao : Option Addr) (n c : Nat) (zs : List Int) (a x : Int) (w : World) (hr : Rd w (.slice ao n c) (vals zs)) (hA : ao = none → c = 0) :
    Calls Try.prog 5 #[.slice ao n c, .int .i64 a, .int .i64 x] w fun e w' => e = .returned (.bool true) ∧ Below w.heap.size w w' := by
  by_cases hn : n ≤ 100
  · exact sortedApart_short ao n c zs a x w hr hA hn
  · exact sortedApart_long ao n c a x w (by omega)
end Go.Proofs.Ytajheohdhiojcab
