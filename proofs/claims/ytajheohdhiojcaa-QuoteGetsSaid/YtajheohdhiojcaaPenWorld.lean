/- Facts on worlds for the laws of sip: an append that may grow, and where the new row lies; a pen's state and what writing with it leaves alone. No walk. Conditions: the appended bytes fit into 2^47. -/
import Derived.Test.YtajheohdhiojcaaRows
import Derived.WalkKit
import Derived.OneCell
import Derived.ArgAppend
import Derived.Lib.AppendStr
import Derived.Lib.VarintMem
namespace Go.Proofs.Ytajheohdhiojcaa
open Go.RowKit

/-- The new value's row is the old one's, or a new one. -/
def Sep (w : World) (v v' : Value) : Prop := v'.ownBlock = v.ownBlock ∨ ∃ g, v'.ownBlock = some g ∧ w.heap.size ≤ g

theorem sep_of_own {w w' : World} {v v' : Value} {e : TypeId} {size n : Nat} {xs : List Value} (hv : v.ownBlock = none) (h : w'.ownsRow w.heap.size e size v' n xs) : Sep w v v' := by
  cases hb : v'.ownBlock with
  | none => exact Or.inl (by rw [hb, hv])
  | some k => exact Or.inr ⟨k, hb, (h.lt k hb).1⟩

section
variable {P : Program} (w : World)

theorem run_append_sep (base : Nat) (t ty e : TypeId) (i : TypeInfo) (z : Value) (size bytes : Nat) (ht : P.underlying t = some (.slice e)) (hi : P.info? e = some i) (hz : i.zero = some z)
    (hsize : i.size = size) (hby : i.bytes = bytes) (hzs : z.cells.size = size) (hsz : 0 < size)
    (v : Value) (n : Nat) (xs : List Value) (hown : w.ownsRow base e size v n xs)
    (a : Addr) (m c : Nat) (news : List Value) (hl : news.length = m * size) (hnews : ∀ j u, news[j]? = some u → w.cell? (a.add j) = some u) (h1 : ∀ u ∈ news, u.oneCell' = true)
    (h63 : n + m ≤ maxLen) (hbytes : (n + m) * bytes ≤ 140737488355328) (hbase : base ≤ w.heap.size) :
    ∃ v' w', (Builtin.append_ #[t, t] ty #[v, .slice (some a) m c]).run P w = .ok v' w' ∧ w'.ownsRow base e size v' (n + m) (xs ++ news) ∧ w.grownBy w' v.ownBlock ∧ Sep w v v' := by
  obtain ⟨v', w', hr, h2, h3, _⟩ := run_append_own (P := P) w base t ty e i z size bytes ht hi hz hsize hby hzs hsz v n xs hown a m c news hl hnews h1 h63 hbytes hbase
  refine ⟨v', w', hr, h2, h3, ?_⟩
  rcases hown.2 with ⟨rfl, rfl⟩ | ⟨g, cap, cur, rfl, hbg, hg, hnc, hcm, hcs, htake⟩
  · obtain ⟨v2, w2, hr2, o2, _, _⟩ := run_append_own (P := P) w w.heap.size t ty e i z size bytes ht hi hz hsize hby hzs hsz (.slice none 0 0) 0 [] (World.ownsRow_nil _ _ _ _) a m c news hl hnews h1 h63 hbytes (Nat.le_refl _)
    rw [hr] at hr2
    injection hr2 with e1 e2
    subst e1
    exact sep_of_own rfl o2
  · by_cases hroom : n + m ≤ cap
    · have hr2 := run_append_room (P := P) w t ty e i ht hi g n cap cur hg a m c news (by rw [hsize]; exact hl) hnews h1 hroom (by rw [hl, hsize, hcs, ← Nat.add_mul]; exact Nat.mul_le_mul_right _ hroom)
      rw [hr] at hr2
      injection hr2 with e1 e2
      subst e1
      exact Or.inl rfl
    · obtain ⟨v2, w2, hr2, o2, _⟩ := run_append_arg_grows (P := P) w t ty e i z size bytes ht hi hz hsize hby hzs hsz ⟨g, 0, none⟩ n cap xs hown.1 (hown.cells (g := g) rfl) a m c news hl hnews (by omega) h63 hbytes
      rw [hr] at hr2
      injection hr2 with e1 e2
      subst e1
      rcases o2.2 with ⟨_, hn⟩ | ⟨g2, cap2, cur2, hv2, hb2, _⟩
      · omega
      · exact Or.inr ⟨g2, by rw [hv2]; rfl, hb2⟩

theorem run_append_str_sep (base : Nat) (t u ty e : TypeId) (i : TypeInfo) (ht : P.underlying t = some (.slice e)) (hu : P.underlying u = some .string) (hi : P.info? e = some i) (hz : i.zero = some (.int .u8 0))
    (hsize : i.size = 1) (hby : i.bytes = 1)
    (v : Value) (n : Nat) (xs : List Value) (hown : w.ownsRow base e 1 v n xs) (s : ByteArray)
    (h63 : n + s.size ≤ maxLen) (hbytes : n + s.size ≤ 140737488355328) (hbase : base ≤ w.heap.size) :
    ∃ v' w', (Builtin.append_ #[t, u] ty #[v, .string s]).run P w = .ok v' w' ∧ w'.ownsRow base e 1 v' (n + s.size) (xs ++ Lib.strCells s) ∧ w.grownBy w' v.ownBlock ∧ Sep w v v' := by
  obtain ⟨v', w', hr, h2, h3, _⟩ := Lib.run_append_own_string (P := P) w base t u ty e i ht hu hi hz hsize hby v n xs hown s h63 hbytes hbase
  refine ⟨v', w', hr, h2, h3, ?_⟩
  have hxl : xs.length = n := by simpa using hown.1
  rcases hown.2 with ⟨rfl, rfl⟩ | ⟨g, cap, cur, rfl, hbg, hg, hnc, hcm, hcs, htake⟩
  · obtain ⟨v2, w2, hr2, o2, _, _⟩ := Lib.run_append_own_string (P := P) w w.heap.size t u ty e i ht hu hi hz hsize hby (.slice none 0 0) 0 [] (World.ownsRow_nil _ _ _ _) s h63 hbytes (Nat.le_refl _)
    rw [hr] at hr2
    injection hr2 with e1 e2
    subst e1
    exact sep_of_own rfl o2
  · by_cases hroom : n + s.size ≤ cap
    · have hr2 := Lib.run_append_room_string (P := P) w t u ty e i ht hu hi hsize g n cap cur hg s hroom (by omega)
      rw [hr] at hr2
      injection hr2 with e1 e2
      subst e1
      exact Or.inl rfl
    · have hr2 := Lib.run_append_grow_string (P := P) w t u ty e i (.int .u8 0) ht hu hi hz ⟨g, 0, none⟩ n cap xs (by rw [hsize]; simpa using hxl) (hown.cells (g := g) rfl) s (by omega) (by simp only [maxLen] at h63; omega) (by rw [hby]; exact growslice_fits (by omega) (by omega))
      rw [hr] at hr2
      injection hr2 with e1 e2
      subst e1
      exact Or.inr ⟨w.heap.size, rfl, Nat.le_refl _⟩

end

/-- The operation, for the walk: append, and where the new row lies. -/
theorem wpList_append_sep {P : Program} (w : World) {ops : Array Oper} {rest : List Oper} {o : Oper} {a : Act} {Q : Exit → Act → World → Prop} (hgd : o.guard = none) (s x : Operand) (t : TypeId)
    (ho : o.op = .call { callee := .builtin .append, args := #[s, x], argTypes := #[t, t] })
    (base : Nat) (e : TypeId) (i : TypeInfo) (z : Value) (size bytes : Nat) (ht : P.underlying t = some (.slice e)) (hi : P.info? e = some i) (hz : i.zero = some z)
    (hsize : i.size = size) (hby : i.bytes = bytes) (hzs : z.cells.size = size) (hsz : 0 < size)
    (v : Value) (n : Nat) (xs : List Value) (hs : a.eval s = v) (hown : w.ownsRow base e size v n xs)
    (ad : Addr) (m c : Nat) (news : List Value) (hx : a.eval x = .slice (some ad) m c) (hl : news.length = m * size) (hnews : ∀ j u, news[j]? = some u → w.cell? (ad.add j) = some u) (h1 : ∀ u ∈ news, u.oneCell' = true)
    (h63 : n + m ≤ maxLen) (hbytes : (n + m) * bytes ≤ 140737488355328) (hbase : base ≤ w.heap.size)
    (h : ∀ v' w', w'.ownsRow base e size v' (n + m) (xs ++ news) → w.grownBy w' v.ownBlock → Sep w v v' → wpList P ops Q rest (a.put o.dst v') w') : wpList P ops Q (o :: rest) a w := by
  refine wpList_plain hgd fun K hK => ?_
  obtain ⟨v', w', hr, h2, h3, h4⟩ := run_append_sep (P := P) w base t o.type e i z size bytes ht hi hz hsize hby hzs hsz v n xs hown ad m c news hl hnews h1 h63 hbytes hbase
  unfold Oper.wp execOp
  simp only [ho, resolve, invoke, builtin, Sem.run_bind, Sem.run_pure, Result.andThen_ok, List.map_toArray, List.map_cons, List.map_nil, hs, hx, hr]
  exact hK _ _ (h v' w' h2 h3 h4)

theorem wpList_append_str_sep {P : Program} (w : World) {ops : Array Oper} {rest : List Oper} {o : Oper} {a : Act} {Q : Exit → Act → World → Prop} (hgd : o.guard = none) (sl x : Operand) (t u : TypeId)
    (ho : o.op = .call { callee := .builtin .append, args := #[sl, x], argTypes := #[t, u] })
    (base : Nat) (e : TypeId) (i : TypeInfo) (ht : P.underlying t = some (.slice e)) (hu : P.underlying u = some .string) (hi : P.info? e = some i) (hz : i.zero = some (.int .u8 0))
    (hsize : i.size = 1) (hby : i.bytes = 1)
    (v : Value) (n : Nat) (xs : List Value) (hs : a.eval sl = v) (hown : w.ownsRow base e 1 v n xs) (s : ByteArray) (hx : a.eval x = .string s)
    (h63 : n + s.size ≤ maxLen) (hbytes : n + s.size ≤ 140737488355328) (hbase : base ≤ w.heap.size)
    (h : ∀ v' w', w'.ownsRow base e 1 v' (n + s.size) (xs ++ Lib.strCells s) → w.grownBy w' v.ownBlock → Sep w v v' → wpList P ops Q rest (a.put o.dst v') w') : wpList P ops Q (o :: rest) a w := by
  refine wpList_plain hgd fun K hK => ?_
  obtain ⟨v', w', hr, h2, h3, h4⟩ := run_append_str_sep (P := P) w base t u o.type e i ht hu hi hz hsize hby v n xs hown s h63 hbytes hbase
  unfold Oper.wp execOp
  simp only [ho, resolve, invoke, builtin, Sem.run_bind, Sem.run_pure, Result.andThen_ok, List.map_toArray, List.map_cons, List.map_nil, hs, hx, hr]
  exact hK _ _ (h v' w' h2 h3 h4)

/-- The row that the pen at a block writes into. -/
def penRow (w : World) (pb : Nat) : Option Nat := (w.cell? ⟨pb, 0, none⟩).bind Value.ownBlock

/-- The pen at block pb has the bytes l, in a row from B on. -/
def Pen (w : World) (B pb : Nat) (l : List UInt8) : Prop :=
  ∃ v, w.heap[pb]? = some (.cells #[v] 27 (0, 0)) ∧ w.ownsRow B 5 1 v l.length (Lib.byteCells l) ∧ v.ownBlock ≠ some pb ∧ B ≤ pb

/-- Writing with the pen at pb: blocks that are neither the pen's own nor its row's are as they were; its row is the old one or a new one. -/
structure Wr (pb : Nat) (w w' : World) : Prop where
  os : w'.os = w.os
  tape : w'.tape = w.tape
  output : w'.output = w.output
  size : w.heap.size ≤ w'.heap.size
  block : ∀ k, k < w.heap.size → k ≠ pb → some k ≠ penRow w pb → w'.heap[k]? = w.heap[k]?
  row : penRow w' pb = penRow w pb ∨ ∃ g, penRow w' pb = some g ∧ w.heap.size ≤ g

theorem Wr.refl (pb : Nat) (w : World) : Wr pb w w := ⟨rfl, rfl, rfl, Nat.le_refl _, fun _ _ _ _ => rfl, Or.inl rfl⟩

theorem Wr.trans {pb : Nat} {a b c : World} (h : Wr pb a b) (k : Wr pb b c) : Wr pb a c := by
  refine ⟨k.os.trans h.os, k.tape.trans h.tape, k.output.trans h.output, Nat.le_trans h.size k.size, fun i hi h1 h2 => ?_, ?_⟩
  · refine (k.block i (Nat.lt_of_lt_of_le hi h.size) h1 ?_).trans (h.block i hi h1 h2)
    rcases h.row with e | ⟨g, e, hg⟩
    · rw [e]; exact h2
    · rw [e]; intro e2; injection e2 with e2; omega
  · rcases k.row with e | ⟨g, e, hg⟩
    · rw [e]; exact h.row
    · exact Or.inr ⟨g, e, Nat.le_trans h.size hg⟩

theorem Wr.drew {pb : Nat} {a w : World} (h : Wr pb a w) : Wr pb a w.drew := ⟨h.os, h.tape, h.output, h.size, h.block, h.row⟩

theorem Wr.alloc {pb : Nat} {a w : World} (h : Wr pb a w) (hp : pb < w.heap.size) (o : Obj) : Wr pb a (w.alloc o) :=
  h.trans ⟨rfl, rfl, rfl, by simp, fun k hk _ _ => Below.heap_alloc _ _ _ hk, Or.inl (by unfold penRow; rw [World.cell?_alloc_past _ _ _ hp])⟩

theorem Pen.lt {w : World} {B pb : Nat} {l : List UInt8} (h : Pen w B pb l) : pb < w.heap.size := by obtain ⟨v, h, _⟩ := h; exact lt_of_block h

theorem Pen.row {w : World} {B pb : Nat} {l : List UInt8} (h : Pen w B pb l) : ∀ k, penRow w pb = some k → B ≤ k ∧ k < w.heap.size ∧ k ≠ pb := by
  obtain ⟨v, h1, h2, h3, _⟩ := h
  intro k hk
  unfold penRow at hk
  rw [cell_of_one h1] at hk
  have hk' : v.ownBlock = some k := by simpa using hk
  have := h2.lt k hk'
  exact ⟨this.1, this.2, fun e => h3 (by rw [hk', e])⟩

/-- A pen whose own block, and its row, are as they were. -/
theorem Pen.keep {w w' : World} {B pb : Nat} {l : List UInt8} (h : Pen w B pb l) (hk : ∀ k, (k = pb ∨ penRow w pb = some k) → w'.heap[k]? = w.heap[k]?) : Pen w' B pb l := by
  obtain ⟨v, h1, h2, h3, h4⟩ := h
  have hr : ∀ k, v.ownBlock = some k → penRow w pb = some k := by
    intro k e; unfold penRow; rw [cell_of_one h1]; simpa using e
  refine ⟨v, by rw [hk pb (Or.inl rfl)]; exact h1, ?_, h3, h4⟩
  refine ⟨h2.1, ?_⟩
  rcases h2.2 with hn | ⟨g, cap, cur, rfl, hb, hgg, rest⟩
  · exact Or.inl hn
  · exact Or.inr ⟨g, cap, cur, rfl, hb, by rw [hk g (Or.inr (hr g rfl))]; exact hgg, rest⟩

theorem Pen.alloc {w : World} {B pb : Nat} {l : List UInt8} (h : Pen w B pb l) (o : Obj) : Pen (w.alloc o) B pb l :=
  h.keep fun k hk => Below.heap_alloc _ _ _ (by rcases hk with rfl | hk; exact h.lt; exact (h.row k hk).2.1)

theorem Pen.drew {w : World} {B pb : Nat} {l : List UInt8} (h : Pen w B pb l) : Pen w.drew B pb l := h

theorem Wr.below {w w' : World} {B pb : Nat} {l : List UInt8} (h : Wr pb w w') (hp : Pen w B pb l) (hB : B ≤ w.heap.size) : Below B w w' := by
  have h4 : B ≤ pb := by obtain ⟨_, _, _, _, h4⟩ := hp; exact h4
  refine ⟨h.os, h.tape, h.output, h.size, fun k hk => h.block k (by omega) (by omega) (fun e => ?_)⟩
  have := (hp.row k e.symm).1
  omega

/-- A cell that is neither the pen's nor its row's. -/
theorem Wr.cell {w w' : World} {pb : Nat} (h : Wr pb w w') {p : Addr} (h0 : p.block < w.heap.size) (h1 : p.block ≠ pb) (h2 : some p.block ≠ penRow w pb) : w'.cell? p = w.cell? p := World.cell?_of_block (w := w) (h.block p.block h0 h1 h2)

/-- Behind an append and the store of what came of it. -/
theorem pen_step {w w0 w1 : World} {B pb : Nat} {l new : List UInt8} {v v' : Value}
    (h1 : w.heap[pb]? = some (.cells #[v] 27 (0, 0))) (h3 : v.ownBlock ≠ some pb) (h4 : B ≤ pb)
    (h0 : ∀ k, k < w.heap.size → w0.heap[k]? = w.heap[k]?) (hs : w.heap.size ≤ w0.heap.size) (ho : w0.os = w.os) (ht : w0.tape = w.tape) (hout : w0.output = w.output)
    (hown : w1.ownsRow B 5 1 v' (l.length + new.length) (Lib.byteCells l ++ Lib.byteCells new)) (hg : w0.grownBy w1 v.ownBlock) (hsep : Sep w0 v v') :
    Pen (w1.setCell ⟨pb, 0, none⟩ v') B pb (l ++ new) ∧ Wr pb w (w1.setCell ⟨pb, 0, none⟩ v') := by
  have hlt := lt_of_block h1
  have hp1 : w1.heap[pb]? = some (.cells #[v] 27 (0, 0)) := by
    rw [hg.block pb (by omega) (fun e => h3 e.symm), h0 pb hlt]; exact h1
  have hne : v'.ownBlock ≠ some pb := by
    rcases hsep with e | ⟨g, e, hge⟩
    · rw [e]; exact h3
    · rw [e]; intro e2; injection e2 with e2; omega
  have hrow : penRow w pb = v.ownBlock := by unfold penRow; rw [cell_of_one h1]; rfl
  have hrow' : penRow (w1.setCell ⟨pb, 0, none⟩ v') pb = v'.ownBlock := by unfold penRow; rw [cell_of_one (one_setCell hp1)]; rfl
  refine ⟨⟨v', one_setCell hp1, ?_, hne, h4⟩, ⟨hg.os.trans ho, hg.tape.trans ht, hg.output.trans hout, by simp [World.setCell]; exact Nat.le_trans hs hg.size, fun k hk h5 h6 => ?_, ?_⟩⟩
  · have := ownsRow_setCell_other hown (a := ⟨pb, 0, none⟩) hne v'
    simpa [Lib.byteCells_append] using this
  · rw [Below.heap_setCell _ _ _ _ h5, hg.block k (by omega) (by rw [← hrow]; exact h6), h0 k hk]
  · rw [hrow, hrow']
    rcases hsep with e | ⟨g, e, hge⟩
    · exact Or.inl e
    · exact Or.inr ⟨g, e, Nat.le_trans hs hge⟩

end Go.Proofs.Ytajheohdhiojcaa
