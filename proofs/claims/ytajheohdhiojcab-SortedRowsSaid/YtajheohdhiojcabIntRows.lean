/- Rows of numbers: what is at a place of a row with one more, without one, with another one, of a part, of two as one; sorted's calls on them; an append of a whole row behind a new one. Condition: rows of at most 2^38 numbers. -/
import Derived.Test.YtajheohdhiojcabOpsInt
import Derived.Laws.AppendOwnNone
namespace Go.Proofs.Ytajheohdhiojcab
open Go.RowKit

/-- The number at a place. -/
def nti (zs : List Int) (i : Nat) : Int := zs.getD i 0

theorem nti_eq {zs : List Int} {i : Nat} (h : i < zs.length) : nti zs i = zs[i] := by
  unfold nti
  rw [List.getD_eq_getElem?_getD, List.getElem?_eq_getElem h]; rfl

theorem nti_opt (zs : List Int) (i : Nat) : nti zs i = zs[i]?.getD 0 := by
  unfold nti
  rw [List.getD_eq_getElem?_getD]

def insI (zs : List Int) (at_ : Nat) (x : Int) : List Int := zs.take at_ ++ x :: zs.drop at_
def cutI (zs : List Int) (at_ : Nat) : List Int := zs.take at_ ++ zs.drop (at_ + 1)
def setI (zs : List Int) (at_ : Nat) (x : Int) : List Int := zs.take at_ ++ x :: zs.drop (at_ + 1)
def partI (zs : List Int) (lo hi : Nat) : List Int := (zs.take hi).drop lo

theorem len_ins {zs : List Int} {at_ : Nat} {x : Int} (h : at_ ≤ zs.length) : (insI zs at_ x).length = zs.length + 1 := by
  unfold insI; rw [List.length_append, List.length_cons, List.length_take, List.length_drop]; omega
theorem len_cut {zs : List Int} {at_ : Nat} (h : at_ < zs.length) : (cutI zs at_).length + 1 = zs.length := by
  unfold cutI; rw [List.length_append, List.length_take, List.length_drop]; omega
theorem len_set {zs : List Int} {at_ : Nat} {x : Int} (h : at_ < zs.length) : (setI zs at_ x).length = zs.length := by
  unfold setI; rw [List.length_append, List.length_cons, List.length_take, List.length_drop]; omega
theorem len_part (zs : List Int) (lo hi : Nat) : (partI zs lo hi).length = min hi zs.length - lo := by
  unfold partI; rw [List.length_drop, List.length_take]

theorem nti_ins_lo {zs : List Int} {at_ i : Nat} {x : Int} (h : at_ ≤ zs.length) (hi : i < at_) : nti (insI zs at_ x) i = nti zs i := by
  rw [nti_opt, nti_opt]; unfold insI
  rw [List.getElem?_append_left (by rw [List.length_take]; omega), List.getElem?_take_of_lt hi]
theorem nti_ins_at {zs : List Int} {at_ : Nat} {x : Int} (h : at_ ≤ zs.length) : nti (insI zs at_ x) at_ = x := by
  rw [nti_opt]; unfold insI
  rw [List.getElem?_append_right (by rw [List.length_take]; omega), List.length_take, show at_ - min at_ zs.length = 0 by omega]; rfl
theorem nti_ins_hi {zs : List Int} {at_ i : Nat} {x : Int} (h : at_ ≤ i) (hi : i < zs.length) : nti (insI zs at_ x) (i + 1) = nti zs i := by
  rw [nti_opt, nti_opt]; unfold insI
  rw [List.getElem?_append_right (by rw [List.length_take]; omega), List.length_take, show i + 1 - min at_ zs.length = (i - at_) + 1 by omega, List.getElem?_cons_succ, List.getElem?_drop, show at_ + (i - at_) = i by omega]
theorem nti_cut_lo {zs : List Int} {at_ i : Nat} (h : at_ < zs.length) (hi : i < at_) : nti (cutI zs at_) i = nti zs i := by
  rw [nti_opt, nti_opt]; unfold cutI
  rw [List.getElem?_append_left (by rw [List.length_take]; omega), List.getElem?_take_of_lt hi]
theorem nti_cut_hi {zs : List Int} {at_ i : Nat} (h : at_ < i) (hi : i < zs.length) : nti (cutI zs at_) (i - 1) = nti zs i := by
  rw [nti_opt, nti_opt]; unfold cutI
  rw [List.getElem?_append_right (by rw [List.length_take]; omega), List.length_take, List.getElem?_drop, show at_ + 1 + (i - 1 - min at_ zs.length) = i by omega]
theorem nti_set_ne {zs : List Int} {at_ i : Nat} {x : Int} (h : at_ < zs.length) (hi : i < zs.length) (hne : i ≠ at_) : nti (setI zs at_ x) i = nti zs i := by
  rw [nti_opt, nti_opt]; unfold setI
  by_cases hlt : i < at_
  · rw [List.getElem?_append_left (by rw [List.length_take]; omega), List.getElem?_take_of_lt hlt]
  · rw [List.getElem?_append_right (by rw [List.length_take]; omega), List.length_take, show i - min at_ zs.length = (i - at_ - 1) + 1 by omega, List.getElem?_cons_succ, List.getElem?_drop, show at_ + 1 + (i - at_ - 1) = i by omega]
theorem nti_set_at {zs : List Int} {at_ : Nat} {x : Int} (h : at_ < zs.length) : nti (setI zs at_ x) at_ = x := by
  rw [nti_opt]; unfold setI
  rw [List.getElem?_append_right (by rw [List.length_take]; omega), List.length_take, show at_ - min at_ zs.length = 0 by omega]; rfl
theorem nti_part {zs : List Int} {lo hi k : Nat} (h : lo + k < hi) : nti (partI zs lo hi) k = nti zs (lo + k) := by
  rw [nti_opt, nti_opt]; unfold partI
  rw [List.getElem?_drop, List.getElem?_take_of_lt h]
theorem nti_join_lo {zs ys : List Int} {i : Nat} (h : i < zs.length) : nti (zs ++ ys) i = nti zs i := by
  rw [nti_opt, nti_opt, List.getElem?_append_left h]
theorem nti_join_hi {zs ys : List Int} {k : Nat} : nti (zs ++ ys) (zs.length + k) = nti ys k := by
  rw [nti_opt, nti_opt, List.getElem?_append_right (by omega), show zs.length + k - zs.length = k by omega]

/-- The values of numbers. -/
def vals (zs : List Int) : List Value := zs.map (Value.int .i64)
theorem vals_len (zs : List Int) : (vals zs).length = zs.length := by unfold vals; rw [List.length_map]
theorem vals_one (zs : List Int) : ∀ u ∈ vals zs, u.oneCell' = true := by
  intro u hu
  obtain ⟨s, _, rfl⟩ := List.mem_map.1 hu
  rfl
theorem vals_get {zs : List Int} {i : Nat} (h : i < zs.length) : (vals zs)[i]? = some (.int .i64 (nti zs i)) := by
  unfold vals
  rw [List.getElem?_map, List.getElem?_eq_getElem h, nti_eq h]; rfl

/-- A row whole in a block: its cells. -/
theorem Whole.int {w : World} {g : Nat} {e : TypeId} {zs : List Int} (h : Whole w e g (vals zs)) (i : Nat) (hi : i < zs.length) : w.cell? ⟨g, i, none⟩ = some (.int .i64 (nti zs i)) := by
  rw [h.cell, vals_get hi]

theorem Rd.int {w : World} {ao : Option Addr} {n c : Nat} {zs : List Int} (h : Rd w (.slice ao n c) (vals zs)) (i : Nat) (hi : i < n) :
    ∃ g o, ao = some ⟨g, o, none⟩ ∧ (∀ j, j < n → w.cell? ⟨g, o + j, none⟩ = some (.int .i64 (nti zs j))) := by
  have hl := h.len
  rw [vals_len] at hl
  obtain ⟨ao', c', h1, h2, h3, h4⟩ := h
  injection h1 with e1 e2 e3
  subst e1
  have hvl : (vals zs).length = n := by rw [vals_len]; omega
  obtain ⟨g, o, e, hc⟩ := h4 (by intro h; rw [h, List.length_nil] at hvl; omega)
  refine ⟨g, o, e, fun j hj => ?_⟩
  have hj2 : j < (vals zs).length := by rw [vals_len]; omega
  have h5 := hc j hj2
  have h6 := vals_get (zs := zs) (i := j) (by omega)
  rw [List.getElem?_eq_getElem hj2] at h6
  rw [h5, h6]

theorem Rd.ints {w : World} {ao : Option Addr} {n c : Nat} {zs : List Int} (h : Rd w (.slice ao n c) (vals zs)) : zs.length = n ∧ n ≤ c ∧ c ≤ 9223372036854775807 := by
  have := h.len
  rw [vals_len] at this
  exact this

/-- A new row in a block of its own, behind all that was there. -/
def NewRow (w w' : World) (g : Nat) (zs : List Int) : Prop := w.heap.size ≤ g ∧ Whole w' 3 g (vals zs) ∧ Below w.heap.size w w'

theorem addI_yes (v : Value) (at_ : Nat) (x : Int) (zs : List Int) (w : World) (hr : Rd w v (vals zs)) (hn : zs.length ≤ 274877906944) (hat : at_ ≤ zs.length) :
    Calls Try.prog 7 #[v, .int .i64 at_, .int .i64 x] w fun e w' => ∃ g, e = .returned (.tuple #[.slice (some ⟨g, 0, none⟩) (zs.length + 1) (zs.length + 1), .bool true]) ∧ NewRow w w' g (insI zs at_ x) := by
  obtain ⟨ao, c, hv⟩ := hr.open
  rw [vals_len] at hv
  subst hv
  refine (addInt_yes ao zs.length c at_ x (vals zs) w hr (vals_one zs) hn hat).mono ?_
  rintro e w' ⟨v, rfl, g, rfl, hg, hw, hb⟩
  have hm : List.take at_ (vals zs) ++ Value.int .i64 x :: List.drop at_ (vals zs) = vals (insI zs at_ x) := by unfold vals insI; simp [List.map_take, List.map_drop]
  rw [hm] at hw ⊢
  rw [vals_len, len_ins hat]
  exact ⟨g, rfl, hg, hw, hb⟩

theorem cutI_yes (v : Value) (at_ : Nat) (zs : List Int) (w : World) (hr : Rd w v (vals zs)) (hn : zs.length ≤ 274877906944) (hat : at_ < zs.length) :
    Calls Try.prog 8 #[v, .int .i64 at_] w fun e w' => ∃ g, e = .returned (.tuple #[.slice (some ⟨g, 0, none⟩) (cutI zs at_).length (cutI zs at_).length, .bool true]) ∧ NewRow w w' g (cutI zs at_) := by
  obtain ⟨ao, c, hv⟩ := hr.open
  rw [vals_len] at hv
  subst hv
  refine (cutInt_yes ao zs.length c at_ (vals zs) w hr (vals_one zs) hn hat).mono ?_
  rintro e w' ⟨v, rfl, g, rfl, hg, hw, hb⟩
  have hm : List.take at_ (vals zs) ++ List.drop (at_ + 1) (vals zs) = vals (cutI zs at_) := by unfold vals cutI; simp [List.map_take, List.map_drop]
  rw [hm] at hw ⊢
  rw [vals_len]
  exact ⟨g, rfl, hg, hw, hb⟩

theorem setI_yes (v : Value) (at_ : Nat) (x : Int) (zs : List Int) (w : World) (hr : Rd w v (vals zs)) (hn : zs.length ≤ 274877906944) (hat : at_ < zs.length) :
    Calls Try.prog 9 #[v, .int .i64 at_, .int .i64 x] w fun e w' => ∃ g, e = .returned (.tuple #[.slice (some ⟨g, 0, none⟩) zs.length zs.length, .bool true]) ∧ NewRow w w' g (setI zs at_ x) := by
  obtain ⟨ao, c, hv⟩ := hr.open
  rw [vals_len] at hv
  subst hv
  refine (setInt_yes ao zs.length c at_ x (vals zs) w hr (vals_one zs) hn hat).mono ?_
  rintro e w' ⟨v, rfl, g, rfl, hg, hw, hb⟩
  have hm : List.take at_ (vals zs) ++ Value.int .i64 x :: List.drop (at_ + 1) (vals zs) = vals (setI zs at_ x) := by unfold vals setI; simp [List.map_take, List.map_drop]
  rw [hm] at hw ⊢
  rw [vals_len, len_set hat]
  exact ⟨g, rfl, hg, hw, hb⟩

theorem addI_no (v : Value) (t x : Int) (zs : List Int) (w : World) (hr : Rd w v (vals zs)) (hn : zs.length ≤ 274877906944) (hat : t < 0 ∨ (zs.length : Int) < t) :
    Calls Try.prog 7 #[v, .int .i64 t, .int .i64 x] w fun e w' => e = .returned (.tuple #[.slice none 0 0, .bool false]) ∧ w' = w := by
  obtain ⟨ao, c, hv⟩ := hr.open
  rw [vals_len] at hv
  subst hv
  exact addInt_no ao zs.length c t x w hn hat

theorem cutI_no (v : Value) (t : Int) (zs : List Int) (w : World) (hr : Rd w v (vals zs)) (hn : zs.length ≤ 274877906944) (hat : t < 0 ∨ (zs.length : Int) ≤ t) :
    Calls Try.prog 8 #[v, .int .i64 t] w fun e w' => e = .returned (.tuple #[.slice none 0 0, .bool false]) ∧ w' = w := by
  obtain ⟨ao, c, hv⟩ := hr.open
  rw [vals_len] at hv
  subst hv
  exact cutInt_no ao zs.length c t w hn hat

theorem setI_no (v : Value) (t x : Int) (zs : List Int) (w : World) (hr : Rd w v (vals zs)) (hn : zs.length ≤ 274877906944) (hat : t < 0 ∨ (zs.length : Int) ≤ t) :
    Calls Try.prog 9 #[v, .int .i64 t, .int .i64 x] w fun e w' => e = .returned (.tuple #[.slice none 0 0, .bool false]) ∧ w' = w := by
  obtain ⟨ao, c, hv⟩ := hr.open
  rw [vals_len] at hv
  subst hv
  exact setInt_no ao zs.length c t x w hn hat

/-- A row in new memory, or nothing. -/
def NewOrNone (w w' : World) (v : Value) (zs : List Int) : Prop :=
  (∃ g, v = .slice (some ⟨g, 0, none⟩) zs.length zs.length ∧ NewRow w w' g zs) ∨ (v = .slice none 0 0 ∧ zs = [] ∧ w' = w)

theorem NewOrNone.below {w w' : World} {v : Value} {zs : List Int} (h : NewOrNone w w' v zs) : Below w.heap.size w w' := by
  rcases h with ⟨g, _, h⟩ | ⟨_, _, rfl⟩
  · exact h.2.2
  · exact Below.refl _ _

theorem NewOrNone.rd {w w' : World} {v : Value} {zs : List Int} (h : NewOrNone w w' v zs) (hl : zs.length ≤ 9223372036854775807) : Rd w' v (vals zs) := by
  rcases h with ⟨g, rfl, h⟩ | ⟨rfl, rfl, rfl⟩
  · have := h.2.1.rd (by rw [vals_len]; exact hl)
    rwa [vals_len] at this
  · exact Rd.nil _

theorem partI_any (v : Value) (f t : Int) (zs : List Int) (w : World) (hr : Rd w v (vals zs)) (hn : zs.length ≤ 274877906944) :
    Calls Try.prog 10 #[v, .int .i64 f, .int .i64 t] w fun e w' => ∃ v, e = .returned v ∧ NewOrNone w w' v (partI zs (max f 0).toNat (min t zs.length).toNat) := by
  refine (partInt_any v f t (vals zs) w hr (vals_one zs) (by rw [vals_len]; exact hn)).mono ?_
  rintro e w' ⟨v, rfl, h⟩
  rw [vals_len] at h
  have hm : List.drop (max f 0).toNat (List.take (min t (zs.length : Int)).toNat (vals zs)) = vals (partI zs (max f 0).toNat (min t zs.length).toNat) := by unfold vals partI; rw [List.map_drop, List.map_take]
  rw [hm] at h
  refine ⟨v, rfl, ?_⟩
  rcases h with ⟨g, rfl, hg, hw, hb⟩ | ⟨rfl, h2, rfl⟩
  · rw [vals_len]
    exact Or.inl ⟨g, rfl, hg, hw, hb⟩
  · refine Or.inr ⟨rfl, ?_, rfl⟩
    have := congrArg List.length h2
    rw [vals_len] at this
    exact List.eq_nil_of_length_eq_zero (by simpa using this)

theorem joinI_any (v1 v2 : Value) (zs ys : List Int) (w : World) (h1 : Rd w v1 (vals zs)) (h2 : Rd w v2 (vals ys)) (hl : zs.length + ys.length ≤ 549755813888) :
    Calls Try.prog 11 #[v1, v2] w fun e w' => ∃ g, e = .returned (.slice (some ⟨g, 0, none⟩) (zs.length + ys.length) (zs.length + ys.length)) ∧ NewRow w w' g (zs ++ ys) := by
  refine (joinInt_any v1 v2 (vals zs) (vals ys) w h1 h2 (vals_one _) (vals_one _) (by rw [vals_len, vals_len]; exact hl)).mono ?_
  rintro e w' ⟨v, rfl, g, rfl, hg, hw, hb⟩
  have hm : vals zs ++ vals ys = vals (zs ++ ys) := by unfold vals; rw [List.map_append]
  rw [hm] at hw ⊢
  rw [vals_len, List.length_append]
  exact ⟨g, rfl, hg, hw, hb⟩

/-- append([]int{}, l...): a row behind a new one, of whatever came in. -/
theorem wpList_append_row {P : Program} (w : World) {ops : Array Oper} {rest : List Oper} {o : Oper} {a : Act} {Q : Exit → Act → World → Prop} (hgd : o.guard = none) (s x : Operand) (t : TypeId)
    (ho : o.op = .call { callee := .builtin .append, args := #[s, x], argTypes := #[t, t] })
    (base : Nat) (e : TypeId) (i : TypeInfo) (z : Value) (bytes : Nat) (ht : P.underlying t = some (.slice e)) (hi : P.info? e = some i) (hz : i.zero = some z)
    (hsize : i.size = 1) (hby : i.bytes = bytes) (hzs : z.cells.size = 1)
    (v : Value) (n : Nat) (xs : List Value) (hs : a.eval s = v) (hown : w.ownsRow base e 1 v n xs)
    (A : Option Addr) (m c : Nat) (news : List Value) (hx : a.eval x = .slice A m c) (hA : A = none → c = 0) (hr : Rd w (.slice A m c) news) (h1 : ∀ u ∈ news, u.oneCell' = true)
    (h63 : n + m ≤ maxLen) (hbytes : (n + m) * bytes ≤ 140737488355328) (hbase : base ≤ w.heap.size)
    (h : ∀ v' w', w'.ownsRow base e 1 v' (n + m) (xs ++ news) → w.grownBy w' v.ownBlock → wpList P ops Q rest (a.put o.dst v') w') : wpList P ops Q (o :: rest) a w := by
  have hl := hr.len
  rcases A with _ | ad
  · have hc := hA rfl
    subst hc
    obtain rfl : m = 0 := by omega
    obtain rfl : news = [] := List.eq_nil_of_length_eq_zero hl.1
    refine wpList_append_own_none hgd s x t ho base e i 1 ht hi v n xs hs hown hx ?_
    exact h v w (by simpa using hown) (World.grownBy.refl w _)
  · refine wpList_append_own w hgd s x t ho base e i z 1 bytes ht hi hz hsize hby hzs (by decide) v n xs hs hown ad m c news hx (by omega) (fun j u hj => ?_) h1 h63 hbytes hbase (fun v' w' h2 h3 _ => h v' w' h2 h3)
    have hlt : j < news.length := (List.getElem?_eq_some_iff.1 hj).1
    obtain ⟨ad', e1, hc⟩ := hr.src (by omega)
    injection e1 with e1
    subst e1
    exact hc j u hj
end Go.Proofs.Ytajheohdhiojcab
