/- bowerref16.Read: the document's reading of an operation. Condition: what has a fault has no bytes. -/
import Derived.Test.YtmkglaghnjnooaaDoorOpRText
import Derived.Test.YtmkglaghnjnooaaDoorOpReadF
namespace Go.Proofs.YtmkglaghnjnooaaDoor
open Go.RowKit

/-- What a letter reads. -/
def stepL (c : UInt8) (q : OpV × ES) : OpV × ES :=
  if c = 107 then (⟨q.1.k, (eT 64 q.2).1, q.1.tx, q.1.v, q.1.lim⟩, (eT 64 q.2).2)
  else if c = 116 then (⟨q.1.k, q.1.key, (eT 64 q.2).1, q.1.v, q.1.lim⟩, (eT 64 q.2).2)
  else if c = 118 then (⟨q.1.k, q.1.key, q.1.tx, (eN 18446744073709551615 q.2).1, q.1.lim⟩, (eN 18446744073709551615 q.2).2)
  else if c = 108 then (⟨q.1.k, q.1.key, q.1.tx, q.1.v, ((eN 4096 q.2).1 : Nat)⟩, (eN 4096 q.2).2)
  else q
theorem fold_all (n : Nat) (hn : n ≤ 10) (s : ES) : (usS (n : Int)).data.toList.foldl (fun q c => stepL c q) (⟨(n : Int), ⟨#[]⟩, ⟨#[]⟩, 0, 0⟩, s) = parseU (usK (n : Int)) (usT (n : Int)) (usV (n : Int)) n s := by
  have h : n = 0 ∨ n = 1 ∨ n = 2 ∨ n = 3 ∨ n = 4 ∨ n = 5 ∨ n = 6 ∨ n = 7 ∨ n = 8 ∨ n = 9 ∨ n = 10 := by omega
  rcases h with rfl | rfl | rfl | rfl | rfl | rfl | rfl | rfl | rfl | rfl | rfl
  all_goals simp [usS, usK, usT, usV, parseU, stepL]

theorem REye.far {W : World} {rb A : Nat} {s : ES} {a e : Int} {b c : ByteArray} {d : Int} (h : REye W rb s) (hA : BX W A 24 #[.int .i64 a, .string b, .string c, .int .u64 d, .int .i64 e]) (hne : A ≠ rb) (i : Nat) (u : Value) : REye (W.setCell ⟨A, i, none⟩ u) rb s := by
  obtain ⟨⟨v, h1, ao, cc, h2, h3, h4, h5⟩, h6⟩ := h
  refine ⟨⟨v, (Below.heap_setCell W ⟨A, i, none⟩ u rb (fun e => hne e.symm)).trans h1, ao, cc, h2, h3, h4, fun hb => ?_⟩, h6⟩
  obtain ⟨g, o, e1, hg, hc⟩ := h5 hb
  refine ⟨g, o, e1, hg, fun j hj => ?_⟩
  have hgA : g ≠ A := by
    intro e2
    subst e2
    have := hc j hj
    unfold BX at hA
    simp only [World.cell?, hA] at this
    match hi : o + j, this with
    | 0, this => simp at this
    | 1, this => simp at this
    | 2, this => simp at this
    | 3, this => simp at this
    | 4, this => simp at this
    | (n + 5), this => simp at this
  rw [World.cell?_of_block (w := W) (a := ⟨g, o + j, none⟩) (Below.heap_setCell W ⟨A, i, none⟩ u g hgA)]
  exact hc j hj
theorem REye.under {w w' : World} {rb : Nat} {s : ES} (h : REye w rb s) (hb : Below w.heap.size w w') : REye w' rb s := by
  obtain ⟨⟨v, h1, ao, c, h2, h3, h4, h5⟩, h6⟩ := h
  refine ⟨⟨v, by rw [hb.block rb (lt_of_block h1)]; exact h1, ao, c, h2, h3, h4, fun hne => ?_⟩, h6⟩
  obtain ⟨g, o, e, hg, hc⟩ := h5 hne
  exact ⟨g, o, e, hg, fun j hj => (hb.cell (p := ⟨g, o + j, none⟩) (World.block_lt_of_cell? w _ (hc j hj))).trans (hc j hj)⟩

/-- While it reads: the result's box, the operation's. -/
structure QAt (w W : World) (rb A2 A4 : Nat) (s : ES) (x : OpV) : Prop where
  eye : REye W rb s
  res : BX W A2 24 #[.int .i64 0, .string ⟨#[]⟩, .string ⟨#[]⟩, .int .u64 0, .int .i64 0]
  op : BX W A4 24 x.arr
  ew : Ew rb w W
  ge : w.heap.size ≤ A2 ∧ w.heap.size ≤ A4
  ne : A2 ≠ rb ∧ A4 ≠ rb ∧ A4 ≠ A2
theorem QAt.step {w W W' : World} {rb A2 A4 : Nat} {s s' : ES} {x : OpV} (h : QAt w W rb A2 A4 s x) (hr : ReadR W W' rb s') : QAt w W' rb A2 A4 s' x :=
  ⟨hr.1, (hr.2.block A2 (lt_of_block h.res) h.ne.1).trans h.res, (hr.2.block A4 (lt_of_block h.op) h.ne.2.1).trans h.op, h.ew.trans hr.2, h.ge, h.ne⟩
theorem QAt.under {w W W' : World} {rb A2 A4 : Nat} {s : ES} {x : OpV} (h : QAt w W rb A2 A4 s x) (hb : Below W.heap.size W W') : QAt w W' rb A2 A4 s x :=
  ⟨h.eye.under hb, h.res.below hb, h.op.below hb, h.ew.trans (ew_of_below hb), h.ge, h.ne⟩
theorem QAt.put {w W : World} {rb A2 A4 : Nat} {s : ES} {x : OpV} (h : QAt w W rb A2 A4 s x) (i : Nat) (u : Value) (y : OpV) (hy : x.arr.setIfInBounds i u = y.arr) : QAt w (W.setCell ⟨A4, i, none⟩ u) rb A2 A4 s y :=
  ⟨h.eye.far (by exact h.op) h.ne.2.1 _ _, (Below.heap_setCell W ⟨A4, i, none⟩ _ A2 (fun e => h.ne.2.2 e.symm)).trans h.res, (heap_setCell_same W A4 i _ _ _ h.op).trans (by rw [hy]), h.ew.far h.ge.2 _ _, h.ge, h.ne⟩
theorem readR_stored {w W : World} {rb : Nat} {s : ES} (hE : REye W rb s) (hR : BX W w.heap.size 24 #[.int .i64 0, .string ⟨#[]⟩, .string ⟨#[]⟩, .int .u64 0, .int .i64 0]) (hne : w.heap.size ≠ rb) (hW : Ew rb w W) (a : Int) (b c : ByteArray) (d e : Int) :
    ReadR w (((((W.setCell ⟨w.heap.size, 0, none⟩ (.int .i64 a)).setCell ⟨w.heap.size, 1, none⟩ (.string b)).setCell ⟨w.heap.size, 2, none⟩ (.string c)).setCell ⟨w.heap.size, 3, none⟩ (.int .u64 d)).setCell ⟨w.heap.size, 4, none⟩ (.int .i64 e)) rb s := by
  have b1 : BX (W.setCell ⟨w.heap.size, 0, none⟩ (.int .i64 a)) w.heap.size 24 #[.int .i64 a, .string ⟨#[]⟩, .string ⟨#[]⟩, .int .u64 0, .int .i64 0] := heap_setCell_same W _ 0 _ _ _ hR
  have b2 : BX ((W.setCell ⟨w.heap.size, 0, none⟩ (.int .i64 a)).setCell ⟨w.heap.size, 1, none⟩ (.string b)) w.heap.size 24 #[.int .i64 a, .string b, .string ⟨#[]⟩, .int .u64 0, .int .i64 0] := heap_setCell_same _ _ 1 _ _ _ b1
  have b3 : BX (((W.setCell ⟨w.heap.size, 0, none⟩ (.int .i64 a)).setCell ⟨w.heap.size, 1, none⟩ (.string b)).setCell ⟨w.heap.size, 2, none⟩ (.string c)) w.heap.size 24 #[.int .i64 a, .string b, .string c, .int .u64 0, .int .i64 0] := heap_setCell_same _ _ 2 _ _ _ b2
  have b4 : BX ((((W.setCell ⟨w.heap.size, 0, none⟩ (.int .i64 a)).setCell ⟨w.heap.size, 1, none⟩ (.string b)).setCell ⟨w.heap.size, 2, none⟩ (.string c)).setCell ⟨w.heap.size, 3, none⟩ (.int .u64 d)) w.heap.size 24 #[.int .i64 a, .string b, .string c, .int .u64 d, .int .i64 0] := heap_setCell_same _ _ 3 _ _ _ b3
  exact ⟨((((hE.far hR hne _ _).far b1 hne _ _).far b2 hne _ _).far b3 hne _ _).far b4 hne _ _, ((((hW.far (Nat.le_refl _) _ _).far (Nat.le_refl _) _ _).far (Nat.le_refl _) _ _).far (Nat.le_refl _) _ _).far (Nat.le_refl _) _ _⟩
theorem spoiled {W : World} {rb : Nat} {s : ES} (h : REye W rb s) (f : Int) : ReadR W ((W.setCell ⟨rb, 1, none⟩ (.int .i64 f)).setCell ⟨rb, 0, none⟩ (.slice none 0 0)) rb ([], f) := by
  obtain ⟨⟨v, h1, _⟩, _⟩ := h
  exact ⟨⟨⟨_, two_set0 (two_set1 h1), Bs.nil _ _⟩, fun _ => rfl⟩, (Ew.set _ _ _ _).trans (Ew.set _ _ _ _)⟩
theorem reye_cells {W : World} {rb : Nat} {s : ES} (h : REye W rb s) : ∃ v, W.cell? ⟨rb, 0, none⟩ = some v ∧ W.cell? ⟨rb, 1, none⟩ = some (.int .i64 s.2) ∧ W.frozen? ⟨rb, 0, none⟩ = false ∧ W.frozen? ⟨rb, 1, none⟩ = false := by
  obtain ⟨⟨v, h1, _⟩, _⟩ := h
  exact ⟨v, two_cell0 h1, two_cell1 h1, two_free (i := 0) h1, two_free (i := 1) h1⟩

set_option maxHeartbeats 8000000 in
set_option maxRecDepth 100000 in
theorem rreadop_any (rb : Nat) (s : ES) (w : World) (he : REye w rb s) :
    Calls Tryd.prog 23 #[.pointer (some ⟨rb, 0, none⟩)] w fun e w' => e = .returned (.tuple #[.agg (readF s).1.1.arr, .bool (readF s).1.2]) ∧ ReadR w w' rb (readF s).2 := by
  obtain ⟨R, hR⟩ : ∃ R, R = readF s := ⟨_, rfl⟩
  rw [← hR]
  unfold readF at hR
  have HFIT := Lib.hid (parseF_fit s)
  have hpf : parseF s = parseU (usK (eN 10 s).1) (usT (eN 10 s).1) (usV (eN 10 s).1) (eN 10 s).1 (eN 10 s).2 := rfl
  have n2 := BX.new w 24 #[.int .i64 0, .string ⟨#[]⟩, .string ⟨#[]⟩, .int .u64 0, .int .i64 0]
  have hx1 := boxed_below w (.cells #[.int .i64 0, .string ⟨#[]⟩, .string ⟨#[]⟩, .int .u64 0, .int .i64 0] 24)
  obtain ⟨W1, hW1⟩ : ∃ W, W = w.alloc (.cells #[.int .i64 0, .string ⟨#[]⟩, .string ⟨#[]⟩, .int .u64 0, .int .i64 0] 24) := ⟨_, rfl⟩
  rw [← hW1] at n2 hx1
  have HNU := Lib.hid (rread_any rb 10 s W1 (he.under hx1))
  have hn10 := eN_le 10 s
  have HLT := Lib.hid he.lt
  rcases hQ : eN 10 s with ⟨n, s1⟩
  rw [hQ] at hpf HNU hn10
  simp only at hpf hn10
  rw [← fold_all n hn10 s1] at hpf
  have HPF := Lib.hid hpf
  have HN2 := Lib.hid n2
  have HX1 := Lib.hid hx1
  have HW1 := Lib.hid hW1
  have HU := Lib.hid (fun W => uses_str (n : Int) W)
  have HR := Lib.hid hR
  have hsz := usS_size (n : Int)
  clear n2 hx1 hW1 hR hQ he hpf
  generalize usS (n : Int) = us at *
  go_enter Tryd.func23, Tryd.ntmps23
  go_upto_region 1 with fail
  rw [← HW1.out]
  clear HW1
  go_wp2_with fail
  refine HNU.out.mono ?_
  rintro e w2 ⟨rfl, hr2⟩
  have m3 := BX.new w2 24 #[.int .i64 (n : Nat), .string ⟨#[]⟩, .string ⟨#[]⟩, .int .u64 0, .int .i64 0]
  have hx3 := boxed_below w2 (.cells #[.int .i64 (n : Nat), .string ⟨#[]⟩, .string ⟨#[]⟩, .int .u64 0, .int .i64 0] 24)
  obtain ⟨W3, hW3⟩ : ∃ W, W = w2.alloc (.cells #[.int .i64 (n : Nat), .string ⟨#[]⟩, .string ⟨#[]⟩, .int .u64 0, .int .i64 0] 24) := ⟨_, rfl⟩
  rw [← hW3] at m3 hx3
  have HA3 : Hid (QAt w W3 rb w.heap.size w2.heap.size s1 ⟨(n : Int), ⟨#[]⟩, ⟨#[]⟩, 0, 0⟩) := Lib.hid (by
    have hlt2 := lt_of_block HN2.out
    have h2s := hr2.2.size
    have hlt := HLT.out
    exact ⟨hr2.1.under hx3, BX.below ((hr2.2.block _ hlt2 (by omega)).trans HN2.out) hx3, m3, ((ew_of_below HX1.out).trans hr2.2).trans (ew_of_below hx3), ⟨Nat.le_refl _, by omega⟩, ⟨by omega, by omega, by omega⟩⟩)
  have HW3 := Lib.hid hW3
  have c0 : W3.cell? ⟨w2.heap.size, 0, none⟩ = some (.int .i64 (n : Nat)) := m3.cell 0 rfl
  clear m3 hx3 hr2 hW3 HNU HN2 HX1
  go_upto_region 2 with fail
  rw [← HW3.out]
  clear HW3
  obtain ⟨g, hg⟩ : ∃ g, g = w2.heap.size := ⟨_, rfl⟩
  rw [← hg] at HA3 c0 ⊢
  clear hg
  go_wp2_with fail
  refine (HU.out _).mono ?_
  rintro e w4 ⟨rfl, h4⟩
  rw [← h4]
  clear h4 c0
  go_wp2
  go_loopw [6] (fun vi wr => ∃ (j : Nat) (q : OpV × ES), vi = .int .i64 j ∧ j ≤ us.size ∧ Hid (q = (us.data.toList.take j).foldl (fun q c => stepL c q) (⟨(n : Int), ⟨#[]⟩, ⟨#[]⟩, 0, 0⟩, s1) ∧ QAt w wr rb w.heap.size g q.2 q.1)) (fun vi _ => us.size - (intOf vi).toNat)
  case atStart => exact ⟨0, _, rfl, Nat.zero_le _, Lib.hid ⟨rfl, HA3.out⟩⟩
  case round =>
    obtain ⟨j, q, rfl, hj, hst⟩ := hrel
    by_cases hlt : j < us.size
    · have hji : (j : Int) < us.size := by omega
      have HS := hst
      clear hst
      have htk : ∀ q0 : OpV × ES, (us.data.toList.take (j + 1)).foldl (fun q c => stepL c q) q0 = stepL us[j] ((us.data.toList.take j).foldl (fun q c => stepL c q) q0) := fun q0 => by
        rw [List.take_add_one, List.foldl_append, List.getElem?_eq_getElem (by simpa using hlt)]
        simp
        rfl
      have HTK := Lib.hid htk
      clear htk
      obtain ⟨⟨xk, xkey, xtx, xv, xlim⟩, qs⟩ := q
      obtain ⟨c, hc⟩ : ∃ c, c = us[j] := ⟨_, rfl⟩
      have hcn : (us[j].toNat : Int) = (c.toNat : Int) := by rw [hc]
      rw [← hc] at HTK
      have HCS := Lib.hid hc
      have hop : BX wr g 24 #[.int .i64 xk, .string xkey, .string xtx, .int .u64 (xv : Nat), .int .i64 xlim] := HS.out.2.op
      have HTX := Lib.hid (rtext_any rb 64 qs wr HS.out.2.eye (by omega))
      have HNV := Lib.hid (rread_any rb 18446744073709551615 qs wr HS.out.2.eye)
      have HNL := Lib.hid (rread_any rb 4096 qs wr HS.out.2.eye)
      clear hc hop
      by_cases h107 : c = 107
      · have hcc := h107
        have e107 : ((us[j].toNat : Int) == 107) = true := by rw [hcn, hcc]; rfl
        have HQX := HTX
        have HTQ : Hid (∀ q0 : OpV × ES, (us.data.toList.take (j + 1)).foldl (fun q c => stepL c q) q0 = stepL c ((us.data.toList.take j).foldl (fun q c => stepL c q) q0)) := HTK
        rcases hQ : eT 64 qs with ⟨X, qs2⟩
        rw [hQ] at HQX
        have HNEW : Hid (((⟨xk, X, xtx, xv, xlim⟩, qs2) : OpV × ES) = (us.data.toList.take (j + 1)).foldl (fun q c => stepL c q) (⟨(n : Int), ⟨#[]⟩, ⟨#[]⟩, 0, 0⟩, s1)) := Lib.hid (by
          rw [HTQ.out, ← HS.out.1]
          unfold stepL
          rw [if_pos hcc]
          simp only [hQ])
        clear hQ h107 HTK HTQ HTX HNV HNL
        go_wp2_with fail
        refine HQX.out.mono ?_
        rintro e w5 ⟨rfl, hr5⟩
        have HA5 := Lib.hid (HS.out.2.step hr5)
        have hop5 : BX w5 g 24 #[.int .i64 xk, .string xkey, .string xtx, .int .u64 (xv : Nat), .int .i64 xlim] := HA5.out.op
        have z1 := hop5.cell 1 rfl
        have y1 := hop5.frozen 1
        have HA6 : Hid (QAt w (w5.setCell ⟨g, 1, none⟩ (.string X)) rb w.heap.size g qs2 ⟨xk, X, xtx, xv, xlim⟩) := Lib.hid (HA5.out.put 1 _ ⟨xk, X, xtx, xv, xlim⟩ rfl)
        clear hr5 hop5
        go_wp2
        go_roundw
        case rel => exact ⟨j + 1, (⟨xk, X, xtx, xv, xlim⟩, qs2), by go_num, by omega, Lib.hid ⟨HNEW.out, HA6.out⟩⟩
        case measure => simp [intOf]; omega
      have hn107 := h107
      clear h107
      by_cases h116 : c = 116
      · have hcc := h116
        have e107 : ((us[j].toNat : Int) == 107) = false := by rw [hcn]; rw [beq_eq_false_iff_ne]; intro h; exact hn107 (UInt8.toNat_inj.1 (by show c.toNat = 107; omega))
        have e116 : ((us[j].toNat : Int) == 116) = true := by rw [hcn, hcc]; rfl
        have HQX := HTX
        have HTQ : Hid (∀ q0 : OpV × ES, (us.data.toList.take (j + 1)).foldl (fun q c => stepL c q) q0 = stepL c ((us.data.toList.take j).foldl (fun q c => stepL c q) q0)) := HTK
        rcases hQ : eT 64 qs with ⟨X, qs2⟩
        rw [hQ] at HQX
        have HNEW : Hid (((⟨xk, xkey, X, xv, xlim⟩, qs2) : OpV × ES) = (us.data.toList.take (j + 1)).foldl (fun q c => stepL c q) (⟨(n : Int), ⟨#[]⟩, ⟨#[]⟩, 0, 0⟩, s1)) := Lib.hid (by
          rw [HTQ.out, ← HS.out.1]
          unfold stepL
          rw [if_neg hn107, if_pos hcc]
          simp only [hQ])
        clear hQ h116 HTK HTQ HTX HNV HNL
        go_wp2_with fail
        refine HQX.out.mono ?_
        rintro e w5 ⟨rfl, hr5⟩
        have HA5 := Lib.hid (HS.out.2.step hr5)
        have hop5 : BX w5 g 24 #[.int .i64 xk, .string xkey, .string xtx, .int .u64 (xv : Nat), .int .i64 xlim] := HA5.out.op
        have z2 := hop5.cell 2 rfl
        have y2 := hop5.frozen 2
        have HA6 : Hid (QAt w (w5.setCell ⟨g, 2, none⟩ (.string X)) rb w.heap.size g qs2 ⟨xk, xkey, X, xv, xlim⟩) := Lib.hid (HA5.out.put 2 _ ⟨xk, xkey, X, xv, xlim⟩ rfl)
        clear hr5 hop5
        go_wp2
        go_roundw
        case rel => exact ⟨j + 1, (⟨xk, xkey, X, xv, xlim⟩, qs2), by go_num, by omega, Lib.hid ⟨HNEW.out, HA6.out⟩⟩
        case measure => simp [intOf]; omega
      have hn116 := h116
      clear h116
      by_cases h118 : c = 118
      · have hcc := h118
        have e107 : ((us[j].toNat : Int) == 107) = false := by rw [hcn]; rw [beq_eq_false_iff_ne]; intro h; exact hn107 (UInt8.toNat_inj.1 (by show c.toNat = 107; omega))
        have e116 : ((us[j].toNat : Int) == 116) = false := by rw [hcn]; rw [beq_eq_false_iff_ne]; intro h; exact hn116 (UInt8.toNat_inj.1 (by show c.toNat = 116; omega))
        have e118 : ((us[j].toNat : Int) == 118) = true := by rw [hcn, hcc]; rfl
        have hle := eN_le 18446744073709551615 qs
        have HQX := HNV
        have HTQ : Hid (∀ q0 : OpV × ES, (us.data.toList.take (j + 1)).foldl (fun q c => stepL c q) q0 = stepL c ((us.data.toList.take j).foldl (fun q c => stepL c q) q0)) := HTK
        rcases hQ : eN 18446744073709551615 qs with ⟨X, qs2⟩
        rw [hQ] at HQX hle
        simp only at hle
        have HNEW : Hid (((⟨xk, xkey, xtx, X, xlim⟩, qs2) : OpV × ES) = (us.data.toList.take (j + 1)).foldl (fun q c => stepL c q) (⟨(n : Int), ⟨#[]⟩, ⟨#[]⟩, 0, 0⟩, s1)) := Lib.hid (by
          rw [HTQ.out, ← HS.out.1]
          unfold stepL
          rw [if_neg hn107, if_neg hn116, if_pos hcc]
          simp only [hQ])
        clear hQ h118 HTK HTQ HTX HNV HNL
        go_wp2_with fail
        refine HQX.out.mono ?_
        rintro e w5 ⟨rfl, hr5⟩
        have HA5 := Lib.hid (HS.out.2.step hr5)
        have hop5 : BX w5 g 24 #[.int .i64 xk, .string xkey, .string xtx, .int .u64 (xv : Nat), .int .i64 xlim] := HA5.out.op
        have z3 := hop5.cell 3 rfl
        have y3 := hop5.frozen 3
        have HA6 : Hid (QAt w (w5.setCell ⟨g, 3, none⟩ (.int .u64 (X : Nat))) rb w.heap.size g qs2 ⟨xk, xkey, xtx, X, xlim⟩) := Lib.hid (HA5.out.put 3 _ ⟨xk, xkey, xtx, X, xlim⟩ rfl)
        clear hr5 hop5
        go_wp2
        go_roundw
        case rel => exact ⟨j + 1, (⟨xk, xkey, xtx, X, xlim⟩, qs2), by go_num, by omega, Lib.hid ⟨HNEW.out, HA6.out⟩⟩
        case measure => simp [intOf]; omega
      have hn118 := h118
      clear h118
      by_cases h108 : c = 108
      · have hcc := h108
        have e107 : ((us[j].toNat : Int) == 107) = false := by rw [hcn]; rw [beq_eq_false_iff_ne]; intro h; exact hn107 (UInt8.toNat_inj.1 (by show c.toNat = 107; omega))
        have e116 : ((us[j].toNat : Int) == 116) = false := by rw [hcn]; rw [beq_eq_false_iff_ne]; intro h; exact hn116 (UInt8.toNat_inj.1 (by show c.toNat = 116; omega))
        have e118 : ((us[j].toNat : Int) == 118) = false := by rw [hcn]; rw [beq_eq_false_iff_ne]; intro h; exact hn118 (UInt8.toNat_inj.1 (by show c.toNat = 118; omega))
        have e108 : ((us[j].toNat : Int) == 108) = true := by rw [hcn, hcc]; rfl
        have hle := eN_le 4096 qs
        have HQX := HNL
        have HTQ : Hid (∀ q0 : OpV × ES, (us.data.toList.take (j + 1)).foldl (fun q c => stepL c q) q0 = stepL c ((us.data.toList.take j).foldl (fun q c => stepL c q) q0)) := HTK
        rcases hQ : eN 4096 qs with ⟨X, qs2⟩
        rw [hQ] at HQX hle
        simp only at hle
        have HNEW : Hid (((⟨xk, xkey, xtx, xv, (X : Nat)⟩, qs2) : OpV × ES) = (us.data.toList.take (j + 1)).foldl (fun q c => stepL c q) (⟨(n : Int), ⟨#[]⟩, ⟨#[]⟩, 0, 0⟩, s1)) := Lib.hid (by
          rw [HTQ.out, ← HS.out.1]
          unfold stepL
          rw [if_neg hn107, if_neg hn116, if_neg hn118, if_pos hcc]
          simp only [hQ])
        clear hQ h108 HTK HTQ HTX HNV HNL
        go_wp2_with fail
        refine HQX.out.mono ?_
        rintro e w5 ⟨rfl, hr5⟩
        have HA5 := Lib.hid (HS.out.2.step hr5)
        have hop5 : BX w5 g 24 #[.int .i64 xk, .string xkey, .string xtx, .int .u64 (xv : Nat), .int .i64 xlim] := HA5.out.op
        have z4 := hop5.cell 4 rfl
        have y4 := hop5.frozen 4
        have HA6 : Hid (QAt w (w5.setCell ⟨g, 4, none⟩ (.int .i64 (X : Nat))) rb w.heap.size g qs2 ⟨xk, xkey, xtx, xv, (X : Nat)⟩) := Lib.hid (HA5.out.put 4 _ ⟨xk, xkey, xtx, xv, (X : Nat)⟩ rfl)
        clear hr5 hop5
        go_wp2
        go_roundw
        case rel => exact ⟨j + 1, (⟨xk, xkey, xtx, xv, (X : Nat)⟩, qs2), by go_num, by omega, Lib.hid ⟨HNEW.out, HA6.out⟩⟩
        case measure => simp [intOf]; omega
      have hn108 := h108
      clear h108
      have e107 : ((us[j].toNat : Int) == 107) = false := by rw [hcn]; rw [beq_eq_false_iff_ne]; intro h; exact hn107 (UInt8.toNat_inj.1 (by show c.toNat = 107; omega))
      have e116 : ((us[j].toNat : Int) == 116) = false := by rw [hcn]; rw [beq_eq_false_iff_ne]; intro h; exact hn116 (UInt8.toNat_inj.1 (by show c.toNat = 116; omega))
      have e118 : ((us[j].toNat : Int) == 118) = false := by rw [hcn]; rw [beq_eq_false_iff_ne]; intro h; exact hn118 (UInt8.toNat_inj.1 (by show c.toNat = 118; omega))
      have e108 : ((us[j].toNat : Int) == 108) = false := by rw [hcn]; rw [beq_eq_false_iff_ne]; intro h; exact hn108 (UInt8.toNat_inj.1 (by show c.toNat = 108; omega))
      have HNEW : Hid (((⟨xk, xkey, xtx, xv, xlim⟩, qs) : OpV × ES) = (us.data.toList.take (j + 1)).foldl (fun q c => stepL c q) (⟨(n : Int), ⟨#[]⟩, ⟨#[]⟩, 0, 0⟩, s1)) := Lib.hid (by
        rw [HTK.out, ← HS.out.1]
        unfold stepL
        rw [if_neg hn107, if_neg hn116, if_neg hn118, if_neg hn108])
      clear HTK HTX HNV HNL
      go_wp2
      go_roundw
      case rel => exact ⟨j + 1, (⟨xk, xkey, xtx, xv, xlim⟩, qs), by go_num, by omega, Lib.hid ⟨HNEW.out, HS.out.2⟩⟩
      case measure => simp [intOf]; omega
    · have hji : ¬ (j : Int) < us.size := by omega
      have HQ : Hid (q = parseF s ∧ QAt w wr rb w.heap.size g q.2 q.1) := Lib.hid ⟨by
        rw [HPF.out, hst.out.1, List.take_of_length_le (by simp; omega)], hst.out.2⟩
      clear hst HPF
      rw [← HQ.out.1] at HR HFIT
      obtain ⟨⟨k, key, tx, v, lim⟩, qs⟩ := q
      have hfit := HFIT.out
      simp only at hfit
      have HSD := Lib.hid (fun W => rsound_any k key tx v lim W (by omega) (by omega))
      have HA := Lib.hid HQ.out.2
      unfold judged OpV.sound at HR
      simp only at HR
      obtain ⟨sd, hsd⟩ : ∃ sd, sd = opSoundB k key tx lim := ⟨_, rfl⟩
      rw [← hsd] at HR HSD
      clear hsd hfit HFIT HQ
      obtain ⟨ql, qf⟩ := qs
      obtain ⟨v0, k0, k1, x0, x1⟩ := reye_cells HA.out.eye
      simp only at k1
      have c0 : wr.cell? ⟨g, 0, none⟩ = some (.int .i64 k) := HA.out.op.cell 0 rfl
      have c1 : wr.cell? ⟨g, 1, none⟩ = some (.string key) := HA.out.op.cell 1 rfl
      have c2 : wr.cell? ⟨g, 2, none⟩ = some (.string tx) := HA.out.op.cell 2 rfl
      have c3 : wr.cell? ⟨g, 3, none⟩ = some (.int .u64 (v : Nat)) := HA.out.op.cell 3 rfl
      have c4 : wr.cell? ⟨g, 4, none⟩ = some (.int .i64 lim) := HA.out.op.cell 4 rfl
      by_cases hf : qf = 0
      · subst hf
        go_wp2_with fail
        refine (HSD.out _).mono ?_
        rintro e w5 ⟨rfl, hb5⟩
        have HA5 := Lib.hid (HA.out.under hb5)
        clear k0 k1 x0 x1 c0 c1 c2 c3 c4 hb5
        obtain ⟨v0, k0, k1, x0, x1⟩ := reye_cells HA5.out.eye
        simp only at k1
        cases sd with
        | true =>
          have HRR : Hid (R = ((⟨k, key, tx, v, lim⟩, true), (ql, 0))) := Lib.hid (by rw [HR.out]; simp only [if_true])
          have c0 : w5.cell? ⟨g, 0, none⟩ = some (.int .i64 k) := HA5.out.op.cell 0 rfl
          have c1 : w5.cell? ⟨g, 1, none⟩ = some (.string key) := HA5.out.op.cell 1 rfl
          have c2 : w5.cell? ⟨g, 2, none⟩ = some (.string tx) := HA5.out.op.cell 2 rfl
          have c3 : w5.cell? ⟨g, 3, none⟩ = some (.int .u64 (v : Nat)) := HA5.out.op.cell 3 rfl
          have c4 : w5.cell? ⟨g, 4, none⟩ = some (.int .i64 lim) := HA5.out.op.cell 4 rfl
          have r0 : w5.cell? ⟨w.heap.size, 0, none⟩ = some (.int .i64 0) := HA5.out.res.cell 0 rfl
          have y0 := HA5.out.res.frozen 0
          have r1 : w5.cell? ⟨w.heap.size, 1, none⟩ = some (.string ⟨#[]⟩) := HA5.out.res.cell 1 rfl
          have y1 := HA5.out.res.frozen 1
          have r2 : w5.cell? ⟨w.heap.size, 2, none⟩ = some (.string ⟨#[]⟩) := HA5.out.res.cell 2 rfl
          have y2 := HA5.out.res.frozen 2
          have r3 : w5.cell? ⟨w.heap.size, 3, none⟩ = some (.int .u64 0) := HA5.out.res.cell 3 rfl
          have y3 := HA5.out.res.frozen 3
          have r4 : w5.cell? ⟨w.heap.size, 4, none⟩ = some (.int .i64 0) := HA5.out.res.cell 4 rfl
          have y4 := HA5.out.res.frozen 4
          have hne := HA5.out.ne.2.2
          have hne2 := HA5.out.ne.1
          go_wp2
          refine bodyPost_ret (v := .tuple #[.agg #[.int .i64 k, .string key, .string tx, .int .u64 (v : Nat), .int .i64 lim], .bool true]) (by simp [results, Tryd.results23, go_sem, *]) rfl ?_
          rw [HRR.out]
          exact ⟨rfl, readR_stored HA5.out.eye HA5.out.res HA5.out.ne.1 HA5.out.ew _ _ _ _ _⟩
        | false =>
          have HRR : Hid (R = ((opZ, false), ([], 10))) := Lib.hid (by rw [HR.out]; simp only [Bool.false_eq_true, if_false, if_true]; rfl)
          have HA6 := Lib.hid (HA5.out.step (spoiled HA5.out.eye 10))
          obtain ⟨W6, hW6⟩ : ∃ W, W = (w5.setCell ⟨rb, 1, none⟩ (.int .i64 10)).setCell ⟨rb, 0, none⟩ (.slice none 0 0) := ⟨_, rfl⟩
          rw [← hW6] at HA6
          have HW6 := Lib.hid hW6
          clear hW6
          go_upto_region 18 with fail
          rw [← HW6.out]
          clear HW6 k0 k1 x0 x1
          obtain ⟨v9, k0, k1, x0, x1⟩ := reye_cells HA6.out.eye
          simp only at k1
          have r0 : W6.cell? ⟨w.heap.size, 0, none⟩ = some (.int .i64 0) := HA6.out.res.cell 0 rfl
          have y0 := HA6.out.res.frozen 0
          have r1 : W6.cell? ⟨w.heap.size, 1, none⟩ = some (.string ⟨#[]⟩) := HA6.out.res.cell 1 rfl
          have y1 := HA6.out.res.frozen 1
          have r2 : W6.cell? ⟨w.heap.size, 2, none⟩ = some (.string ⟨#[]⟩) := HA6.out.res.cell 2 rfl
          have y2 := HA6.out.res.frozen 2
          have r3 : W6.cell? ⟨w.heap.size, 3, none⟩ = some (.int .u64 0) := HA6.out.res.cell 3 rfl
          have y3 := HA6.out.res.frozen 3
          have r4 : W6.cell? ⟨w.heap.size, 4, none⟩ = some (.int .i64 0) := HA6.out.res.cell 4 rfl
          have y4 := HA6.out.res.frozen 4
          have hne2 := HA6.out.ne.1
          go_wp2
          refine bodyPost_ret (v := .tuple #[.agg #[.int .i64 0, .string ⟨#[]⟩, .string ⟨#[]⟩, .int .u64 0, .int .i64 0], .bool false]) (by simp [results, Tryd.results23, go_sem, *]) rfl ?_
          rw [HRR.out]
          exact ⟨rfl, readR_stored HA6.out.eye HA6.out.res HA6.out.ne.1 HA6.out.ew _ _ _ _ _⟩
      · have hqb : (qf == 0) = false := by rw [beq_eq_false_iff_ne]; exact hf
        have hqn : (qf != 0) = true := by rw [bne_iff_ne]; exact hf
        have hql := HA.out.eye.2 hf
        simp only at hql
        have HRR : Hid (R = ((opZ, false), (ql, qf))) := Lib.hid (by
          rw [HR.out, hql]
          cases sd <;> simp [hf])
        clear hf hql
        have r0 : wr.cell? ⟨w.heap.size, 0, none⟩ = some (.int .i64 0) := HA.out.res.cell 0 rfl
        have y0 := HA.out.res.frozen 0
        have r1 : wr.cell? ⟨w.heap.size, 1, none⟩ = some (.string ⟨#[]⟩) := HA.out.res.cell 1 rfl
        have y1 := HA.out.res.frozen 1
        have r2 : wr.cell? ⟨w.heap.size, 2, none⟩ = some (.string ⟨#[]⟩) := HA.out.res.cell 2 rfl
        have y2 := HA.out.res.frozen 2
        have r3 : wr.cell? ⟨w.heap.size, 3, none⟩ = some (.int .u64 0) := HA.out.res.cell 3 rfl
        have y3 := HA.out.res.frozen 3
        have r4 : wr.cell? ⟨w.heap.size, 4, none⟩ = some (.int .i64 0) := HA.out.res.cell 4 rfl
        have y4 := HA.out.res.frozen 4
        have hne2 := HA.out.ne.1
        go_wp2
        refine bodyPost_ret (v := .tuple #[.agg #[.int .i64 0, .string ⟨#[]⟩, .string ⟨#[]⟩, .int .u64 0, .int .i64 0], .bool false]) (by simp [results, Tryd.results23, go_sem, *]) rfl ?_
        rw [HRR.out]
        exact ⟨rfl, readR_stored HA.out.eye HA.out.res HA.out.ne.1 HA.out.ew _ _ _ _ _⟩
end Go.Proofs.YtmkglaghnjnooaaDoor
