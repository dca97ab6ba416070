/- cell's texts (CellMem, CopyRow, CellOps, CellRef) over MemKit. Condition: words and versions are words. -/
import Derived.Test.YtkdjcikilabehaaMemKit
import Derived.Laws.CopyOwn
import Derived.Deep.RegionLaw
import Derived.Laws.MakeOwn
import Derived.Laws.Entries
import Derived.RegionTactic
namespace Go.Proofs.Ytkdjcikilabehaa
open Go.RowKit

def cc (l : List (Nat × Nat)) : List Value := l.flatMap fun p => [.int .u64 p.1, .int .u64 p.2]
theorem cc_len (l : List (Nat × Nat)) : (cc l).length = l.length * 2 := by
  unfold cc
  induction l with
  | nil => rfl
  | cons p l ih => rw [List.flatMap_cons, List.length_append, ih, List.length_cons]; simp; omega
theorem cc_cons (p : Nat × Nat) (l : List (Nat × Nat)) : cc (p :: l) = .int .u64 p.1 :: .int .u64 p.2 :: cc l := rfl
theorem cc_get (l : List (Nat × Nat)) (j : Nat) (hj : j < l.length) : (cc l)[j * 2]? = some (.int .u64 l[j].1) ∧ (cc l)[j * 2 + 1]? = some (.int .u64 l[j].2) := by
  induction l generalizing j with
  | nil => simp at hj
  | cons p l ih =>
    cases j with
    | zero => exact ⟨rfl, rfl⟩
    | succ j =>
      have h := ih j (by simpa using hj)
      rw [cc_cons, show (j + 1) * 2 = j * 2 + 1 + 1 by omega, List.getElem?_cons_succ, List.getElem?_cons_succ, List.getElem?_cons_succ, List.getElem?_cons_succ]
      exact h
theorem cc_set (l : List (Nat × Nat)) (j : Nat) (a b : Nat) : ((cc l).set (j * 2) (.int .u64 a)).set (j * 2 + 1) (.int .u64 b) = cc (l.set j (a, b)) := by
  induction l generalizing j with
  | nil => rfl
  | cons p l ih =>
    cases j with
    | zero => rfl
    | succ j =>
      rw [cc_cons, show (j + 1) * 2 = j * 2 + 1 + 1 by omega, List.set_cons_succ, List.set_cons_succ, List.set_cons_succ, List.set_cons_succ, ih j]
      rfl
theorem cc_rep (n : Nat) : cc (List.replicate n (0, 0)) = List.replicate (n * 2) (.int .u64 0) := by
  induction n with
  | zero => rfl
  | succ n ih => rw [List.replicate_succ, cc_cons, ih, show (n + 1) * 2 = n * 2 + 1 + 1 by omega]; rfl

/-- A cell's word, and its version. -/
def wd (l : List (Nat × Nat)) (j : Nat) : Nat := (l.getD j (0, 0)).1
def vr (l : List (Nat × Nat)) (j : Nat) : Nat := (l.getD j (0, 0)).2
theorem wd_eq {l : List (Nat × Nat)} {j : Nat} (h : j < l.length) : l[j] = (wd l j, vr l j) := by
  unfold wd vr
  rw [List.getD_eq_getElem?_getD, List.getElem?_eq_getElem h]; rfl

/-- Cells in memory: their struct's block b, their row's block g. -/
structure CellsAt (w : World) (b g : Nat) (l : List (Nat × Nat)) : Prop where
  blk : Blk w b 102 #[.slice (some ⟨g, 0, none⟩) l.length l.length]
  row : Blk w g 99 (cc l).toArray
  len : l.length ≤ 65536
  fit : ∀ p ∈ l, p.1 < 18446744073709551616 ∧ p.2 < 18446744073709551616

section
variable {w w' : World} {b g : Nat} {l : List (Nat × Nat)}
theorem CellsAt.below (h : CellsAt w b g l) (hb : Below w.heap.size w w') : CellsAt w' b g l := ⟨h.blk.below hb, h.row.below hb, h.len, h.fit⟩
theorem CellsAt.drew (h : CellsAt w b g l) (hd : Drew w w') : CellsAt w' b g l := h.below (hd.below _)
theorem CellsAt.ne (h : CellsAt w b g l) : b ≠ g := h.blk.ne_ h.row (by decide)
theorem CellsAt.c0 (h : CellsAt w b g l) : w.cell? ⟨b, 0, none⟩ = some (.slice (some ⟨g, 0, none⟩) l.length l.length) := (h.blk.cell 0).trans rfl
theorem CellsAt.word (h : CellsAt w b g l) (j : Nat) (hj : j < l.length) : w.cell? ⟨g, j * 2, none⟩ = some (.int .u64 (wd l j : Nat)) := by
  have := (cc_get l j hj).1
  rw [wd_eq hj] at this
  rw [h.row.cell, ← this]; simp
theorem CellsAt.ver (h : CellsAt w b g l) (j : Nat) (hj : j < l.length) : w.cell? ⟨g, j * 2 + 1, none⟩ = some (.int .u64 (vr l j : Nat)) := by
  have := (cc_get l j hj).2
  rw [wd_eq hj] at this
  rw [h.row.cell, ← this]; simp
theorem CellsAt.set (h : CellsAt w b g l) (j a v : Nat) (ha : a < 18446744073709551616) (hv : v < 18446744073709551616) : CellsAt ((w.setCell ⟨g, j * 2, none⟩ (.int .u64 a)).setCell ⟨g, j * 2 + 1, none⟩ (.int .u64 v)) b g (l.set j (a, v)) := by
  refine ⟨?_, ?_, by rw [List.length_set]; exact h.len, fun p hp => ?_⟩
  · rw [List.length_set]
    exact (h.blk.far h.ne _).far h.ne _
  · have := (h.row.set_ (j * 2) (.int .u64 a)).set_ (j * 2 + 1) (.int .u64 v)
    rw [List.setIfInBounds_toArray, List.setIfInBounds_toArray, cc_set] at this
    exact this
  · rcases List.mem_or_eq_of_mem_set hp with hp | rfl
    · exact h.fit p hp
    · exact ⟨ha, hv⟩
end

theorem cLen_any (b g : Nat) (l : List (Nat × Nat)) (w : World) (h : CellsAt w b g l) :
    Calls Try.prog 37 #[.pointer (some ⟨b, 0, none⟩)] w fun e w' => e = .returned (.int .i64 l.length) ∧ w = w' := by
  have c0 := h.c0
  have hl := h.len
  clear h
  generalize l.length = n at *
  go_enter Try.func37, Try.ntmps37
  go_wp2
  go_ret
  exact ⟨rfl, rfl⟩
theorem cLen_nil (w : World) :
    Calls Try.prog 37 #[.pointer none] w fun e w' => e = .returned (.int .i64 0) ∧ w = w' := by
  go_enter Try.func37, Try.ntmps37
  go_wp2
  go_ret
  exact ⟨rfl, rfl⟩

/-- Whether there is such a cell. -/
def inB (i : Int) (n : Nat) : Bool := decide (0 ≤ i ∧ i < n)
theorem inB_iff (i : Int) (n : Nat) : inB i n = true ↔ 0 ≤ i ∧ i < n := by unfold inB; rw [decide_eq_true_iff]
theorem bool_not {b : Bool} {p : Prop} (h : b = true ↔ p) (hn : ¬ p) : b = false := by
  cases b with
  | false => rfl
  | true => exact absurd (h.1 rfl) hn

theorem has_len (v : Value) (n : Nat) (i : Int) (w : World) (hl : Calls Try.prog 37 #[v] w fun e w' => e = .returned (.int .i64 n) ∧ w = w') :
    Calls Try.prog 62 #[v, .int .i64 i] w fun e w' => e = .returned (.bool (inB i n)) ∧ w = w' := by
  have HL := Lib.hid hl
  have hb := inB_iff i n
  clear hl
  by_cases h0 : 0 ≤ i
  · by_cases h1 : i < n
    · have HB := Lib.hid (hb.2 ⟨h0, h1⟩)
      clear hb
      go_enter Try.func62, Try.ntmps62
      go_wp2_with fail
      refine HL.out.mono ?_
      rintro e w1 ⟨rfl, rfl⟩
      go_wp2
      go_ret
      exact ⟨by rw [HB.out]; rfl, rfl⟩
    · have HB := Lib.hid (bool_not hb (by omega))
      have hd : decide (i < (n : Int)) = false := by simpa using h1
      clear hb
      go_enter Try.func62, Try.ntmps62
      go_wp2_with fail
      refine HL.out.mono ?_
      rintro e w1 ⟨rfl, rfl⟩
      go_wp2
      go_ret
      exact ⟨by rw [HB.out]; rfl, rfl⟩
  · have HB := Lib.hid (bool_not hb (by omega))
    clear hb
    go_enter Try.func62, Try.ntmps62
    go_wp2
    go_ret
    exact ⟨by rw [HB.out]; rfl, rfl⟩

/-- Load where there is no such cell, or no cells. -/
theorem load_out (v : Value) (n : Nat) (i : Int) (w : World) (hl : Calls Try.prog 37 #[v] w fun e w' => e = .returned (.int .i64 n) ∧ w = w') (hi : ¬ (0 ≤ i ∧ i < n)) :
    Calls Try.prog 36 #[v, .int .i64 i] w fun e w' => e = .returned (.tuple #[.int .u64 0, .int .u64 0, .bool false]) ∧ w = w' := by
  have hh := has_len v n i w hl
  rw [bool_not (inB_iff i n) hi] at hh
  have HH := Lib.hid hh
  clear hh hl hi
  go_enter Try.func36, Try.ntmps36
  go_wp2_with fail
  refine HH.out.mono ?_
  rintro e w1 ⟨rfl, rfl⟩
  go_wp2
  go_ret3
  exact ⟨rfl, rfl⟩

set_option maxHeartbeats 1000000 in
theorem load_in (b g : Nat) (l : List (Nat × Nat)) (j : Nat) (w : World) (h : CellsAt w b g l) (hj : j < l.length) :
    Calls Try.prog 36 #[.pointer (some ⟨b, 0, none⟩), .int .i64 j] w fun e w' => e = .returned (.tuple #[.int .u64 (wd l j : Nat), .int .u64 (vr l j : Nat), .bool true]) ∧ Drew w w' := by
  have hh := has_len _ l.length j w (cLen_any b g l w h)
  rw [(inB_iff j l.length).2 ⟨by omega, by omega⟩] at hh
  have HH := Lib.hid hh
  have c0 := h.c0
  have c1 := h.word j hj
  have c2 := h.ver j hj
  have hl := h.len
  clear hh h
  generalize wd l j = x at *
  generalize vr l j = y at *
  have hj' : (j : Int) < l.length := by omega
  generalize l.length = n at *
  go_enter Try.func36, Try.ntmps36
  go_wp2_with fail
  refine HH.out.mono ?_
  rintro e w1 ⟨rfl, rfl⟩
  go_wp2
  go_quiet (fail)
  go_wp2
  go_ret3
  exact ⟨rfl, _, rfl⟩


theorem run_copy_all {P : Program} (w : World) (dT sT ty elem : TypeId) (i : TypeInfo) (g dCap : Nat) (sp : Option Addr) (n sCap : Nat) (cur : Array Value) (t : TypeId) (cs : List Value)
    (hu : P.underlying dT = some (.slice elem)) (hi : P.info? elem = some i)
    (hg : w.heap[g]? = some (.cells cur t (0, 0))) (hn : cs.length = n * i.size)
    (hsrc : 0 < cs.length → ∃ a, sp = some a ∧ ∀ j v, cs[j]? = some v → w.cell? (a.add j) = some v) (hfit : cur.size = cs.length) (h1 : ∀ v ∈ cs, v.oneCell' = true) :
    ∃ w', (Builtin.copy_ #[dT, sT] ty #[.slice (some ⟨g, 0, none⟩) n dCap, .slice sp n sCap]).run P w = .ok (goInt n) w' ∧ w'.heap[g]? = some (.cells cs.toArray t (0, 0)) ∧ Keep (fun k => k = g) w w' := by
  by_cases h0 : cs.length = 0
  · obtain rfl : cs = [] := List.eq_nil_of_length_eq_zero h0
    obtain rfl : cur = #[] := Array.eq_empty_of_size_eq_zero (by simpa using hfit)
    refine ⟨w, ?_, hg, Keep.refl _ _⟩
    have hz : n * i.size = 0 := by simpa using hn.symm
    cases sp with
    | none => simp [Builtin.copy_, run_underlying hu, Builtin.lenOf, Builtin.firstCells, sizeOf, typeInfo, hi, storeCells]
    | some a =>
      have hl := run_loadCells_list (P := P) w a [] (by intro j v hj; simp at hj)
      simp only [List.length_nil] at hl
      simp [Builtin.copy_, run_underlying hu, Builtin.lenOf, Builtin.firstCells, sizeOf, typeInfo, hi, hz, hl, storeCells]
  · obtain ⟨a, rfl, hc⟩ := hsrc (by omega)
    have hl := run_loadCells_list (P := P) w a cs hc
    have hst := run_storeCells_at P g 0 t cs 0 cur w hg (by omega) h1
    refine ⟨_, ?_, setRow_heap w g _ _ t _ hg, ⟨rfl, rfl, rfl, by simp [World.setRow], fun k hk hs => setRow_other w g k _ (fun e => hs e)⟩⟩
    rw [hn] at hl
    simp only [Nat.add_zero, List.take_zero, List.nil_append, Nat.zero_add] at hst
    rw [List.drop_eq_nil_of_le (by simp; omega), List.append_nil] at hst
    simp [Builtin.copy_, run_underlying hu, Builtin.lenOf, Builtin.firstCells, sizeOf, typeInfo, hi, hl, hst]

theorem step_copy_all {P : Program} {ops : Array Oper} {o : Oper} {a : Act} {w : World} {K : Act → World → Prop} {Q : Exit → Act → World → Prop} {E : Prop} (hgd : o.guard = none) (d s : Operand) (dT sT : TypeId)
    (ho : o.op = .call { callee := .builtin .copy, args := #[d, s], argTypes := #[dT, sT] }) (elem : TypeId) (i : TypeInfo) (hu : P.underlying dT = some (.slice elem)) (hi : P.info? elem = some i) (size : Nat) (hsz : i.size = size)
    (g n dCap sCap : Nat) (sp : Option Addr) (hd : a.eval d = .slice (some ⟨g, 0, none⟩) n dCap) (hs : a.eval s = .slice sp n sCap)
    (cur : Array Value) (t : TypeId) (hg : w.heap[g]? = some (.cells cur t (0, 0))) (cs : List Value) (hn : cs.length = n * size)
    (hsrc : 0 < cs.length → ∃ a, sp = some a ∧ ∀ j v, cs[j]? = some v → w.cell? (a.add j) = some v) (hfit : cur.size = cs.length) (h1 : ∀ v ∈ cs, v.oneCell' = true)
    (h : ∀ w', Hid (w'.heap[g]? = some (.cells cs.toArray t (0, 0))) → Hid (Keep (fun k => k = g) w w') → K (a.put o.dst (goInt n)) w') :
    if Region.wanted o (yielded ops a.tmps) = true then Oper.wp P o a w K Q else E := by
  have hw : Region.wanted o (yielded ops a.tmps) = true := by simp [Region.wanted, hgd]
  rw [if_pos hw]
  subst hsz
  obtain ⟨w', hrun, h2, h3⟩ := run_copy_all (P := P) w dT sT o.type elem i g dCap sp n sCap cur t cs hu hi hg hn hsrc hfit h1
  unfold Oper.wp
  simp [execOp, ho, resolve, invoke, builtin, hd, hs, hrun, Result.andThen]
  exact h w' h2 h3

theorem run_make_rowN {P : Program} (t e : TypeId) (i : TypeInfo) (z : Value) (ht : P.underlying t = some (.slice e)) (hi : P.info? e = some i) (hz : i.zero = some z)
    (kl kc : IntKind) (n c : Nat) (hnc : n ≤ c) (hbytes : i.bytes * c ≤ 281474976710656) (h63 : c ≤ 9223372036854775807) (w : World) :
    (Instr.makeSlice t (.int kl (n : Int)) (.int kc (c : Int))).run P w = .ok (.slice (some ⟨w.heap.size, 0, none⟩) n c) (w.alloc (.cells (madeCells z.cells (c * i.size)) e)) := by
  have hb : (i.bytes : Int) * (c : Int) ≤ 281474976710656 := by
    have h : ((i.bytes * c : Nat) : Int) ≤ 281474976710656 := by omega
    rwa [Int.natCast_mul] at h
  have hr := run_make (P := P) w t e i z ht hi hz kl kc n c (by omega) (by omega) hb (by omega)
  simp only [Int.toNat_natCast] at hr
  exact hr


/-- What a write leaves: the row's block alone has turned. -/
structure Wrote (w w' : World) (b g : Nat) (l : List (Nat × Nat)) : Prop where
  cells : CellsAt w' b g l
  keep : Keep (fun k => k = g) w w'

def ver1 (v : Nat) : Nat := (v + 1) % 18446744073709551616

theorem ver1_lt (v : Nat) : ver1 v < 18446744073709551616 := Nat.mod_lt _ (by omega)

/-- Cas where there is no such cell, or no cells. -/
theorem cas_out (v : Value) (n : Nat) (i : Int) (ver word : Nat) (w : World) (hl : Calls Try.prog 37 #[v] w fun e w' => e = .returned (.int .i64 n) ∧ w = w') (hi : ¬ (0 ≤ i ∧ i < n)) :
    Calls Try.prog 58 #[v, .int .i64 i, .int .u64 ver, .int .u64 word] w fun e w' => e = .returned (.bool false) ∧ w = w' := by
  have hh := has_len v n i w hl
  rw [bool_not (inB_iff i n) hi] at hh
  have HH := Lib.hid hh
  clear hh hl hi
  go_enter Try.func58, Try.ntmps58
  go_wp2_with fail
  refine HH.out.mono ?_
  rintro e w1 ⟨rfl, rfl⟩
  go_wp2
  go_ret
  exact ⟨rfl, rfl⟩

set_option maxHeartbeats 1000000 in
/-- Cas where it has another version. -/
theorem cas_no (b g : Nat) (l : List (Nat × Nat)) (j ver word : Nat) (w : World) (h : CellsAt w b g l) (hj : j < l.length) (hv : vr l j ≠ ver) :
    Calls Try.prog 58 #[.pointer (some ⟨b, 0, none⟩), .int .i64 j, .int .u64 ver, .int .u64 word] w fun e w' => e = .returned (.bool false) ∧ w = w' := by
  have hh := has_len _ l.length j w (cLen_any b g l w h)
  rw [(inB_iff j l.length).2 ⟨by omega, by omega⟩] at hh
  have HH := Lib.hid hh
  have c0 := h.c0
  have c2 := h.ver j hj
  have hl := h.len
  clear hh h
  have hd : ((vr l j : Int) != (ver : Int)) = true := by rw [bne_iff_ne]; omega
  generalize vr l j = y at *
  have hj' : (j : Int) < l.length := by omega
  generalize l.length = n at *
  clear hv
  go_enter Try.func58, Try.ntmps58
  go_wp2_with fail
  refine HH.out.mono ?_
  rintro e w1 ⟨rfl, rfl⟩
  go_wp2
  go_ret
  exact ⟨rfl, rfl⟩

theorem keep_two (w : World) (g i j : Nat) (u v : Value) : Keep (fun k => k = g) w ((w.setCell ⟨g, i, none⟩ u).setCell ⟨g, j, none⟩ v) :=
  ((Keep.refl (fun k => k = g) w).set (p := ⟨g, i, none⟩) (fun _ => rfl) u).set (p := ⟨g, j, none⟩) (fun _ => rfl) v

set_option maxHeartbeats 1000000 in
theorem cas_yes (b g : Nat) (l : List (Nat × Nat)) (j word : Nat) (hw : word < 18446744073709551616) (w : World) (h : CellsAt w b g l) (hj : j < l.length) :
    Calls Try.prog 58 #[.pointer (some ⟨b, 0, none⟩), .int .i64 j, .int .u64 (vr l j : Nat), .int .u64 word] w fun e w' => e = .returned (.bool true) ∧ Wrote w w' b g (l.set j (word, ver1 (vr l j))) := by
  have hh := has_len _ l.length j w (cLen_any b g l w h)
  rw [(inB_iff j l.length).2 ⟨by omega, by omega⟩] at hh
  have HH := Lib.hid hh
  have c0 := h.c0
  have c1 := h.word j hj
  have c2 := h.ver j hj
  have f1 := h.row.frozen (j * 2)
  have f2 := h.row.frozen (j * 2 + 1)
  have hl := h.len
  have HS := Lib.hid (h.set j word (ver1 (vr l j)) hw (ver1_lt _))
  clear hh h
  have hw1 : IntKind.u64.wrap ((vr l j : Int) + 1) = (ver1 (vr l j) : Nat) := by
    unfold ver1
    rw [IntKind.wrap_u64]; omega
  have hd : ((vr l j : Int) != ((vr l j : Nat) : Int)) = false := by simp
  generalize vr l j = y at *
  have hj' : (j : Int) < l.length := by omega
  generalize l.length = n at *
  generalize ver1 y = y1 at *
  generalize wd l j = x at *
  go_enter Try.func58, Try.ntmps58
  go_wp2_with fail
  refine HH.out.mono ?_
  rintro e w1 ⟨rfl, rfl⟩
  go_wp2
  go_ret
  exact ⟨rfl, HS.out, keep_two w g _ _ _ _⟩

/-- Store where there is no such cell, or no cells. -/
theorem store_out (v : Value) (n : Nat) (i : Int) (word : Nat) (w : World) (hl : Calls Try.prog 37 #[v] w fun e w' => e = .returned (.int .i64 n) ∧ w = w') (hi : ¬ (0 ≤ i ∧ i < n)) :
    Calls Try.prog 57 #[v, .int .i64 i, .int .u64 word] w fun e w' => e = .returned (.bool false) ∧ w = w' := by
  have HL := Lib.hid (load_out v n i w hl hi)
  have HC := Lib.hid (cas_out v n i 0 word w hl hi)
  clear hl hi
  go_enter Try.func57, Try.ntmps57
  go_wp2_with fail
  refine HL.out.mono ?_
  rintro e w1 ⟨rfl, rfl⟩
  go_wp2_with fail
  refine HC.out.mono ?_
  rintro e w1 ⟨rfl, rfl⟩
  go_wp2
  go_ret
  exact ⟨rfl, rfl⟩

theorem store_in (b g : Nat) (l : List (Nat × Nat)) (j word : Nat) (hw : word < 18446744073709551616) (w : World) (h : CellsAt w b g l) (hj : j < l.length) :
    Calls Try.prog 57 #[.pointer (some ⟨b, 0, none⟩), .int .i64 j, .int .u64 word] w fun e w' => e = .returned (.bool true) ∧ Wrote w w' b g (l.set j (word, ver1 (vr l j))) := by
  have HL := Lib.hid (load_in b g l j w h hj)
  have HC := Lib.hid (fun W (hd : Drew w W) => cas_yes b g l j word hw W (h.drew hd) hj)
  clear h hj
  generalize vr l j = y at *
  generalize wd l j = x at *
  go_enter Try.func57, Try.ntmps57
  go_wp2_with fail
  refine HL.out.mono ?_
  rintro e w1 ⟨rfl, hd⟩
  have HD := Lib.hid hd
  clear hd
  go_wp2_with fail
  refine (HC.out _ HD.out).mono ?_
  rintro e w2 ⟨rfl, hw2⟩
  have HW := Lib.hid hw2
  clear hw2
  go_wp2
  go_ret
  exact ⟨rfl, HW.out.cells, (Keep.of_below (HD.out.below _) _).trans HW.out.keep (fun _ _ h => h)⟩

theorem infoArr : (Try.prog.info? 99).map (fun i => (i.zero, i.size, i.bytes)) = some (some (.agg #[.int .u64 0, .int .u64 0]), 2, 16) := by kernel_rfl
theorem made_arr (n : Nat) : madeCells (Value.agg #[.int .u64 0, .int .u64 0]).cells (n * 2) = (cc (List.replicate n (0, 0))).toArray := by
  have e : (Value.agg #[Value.int .u64 0, .int .u64 0]).cells = #[.int .u64 0, .int .u64 0] := rfl
  rw [cc_rep, e]
  apply Array.ext
  · simp [madeCells]
  · intro i h1 h2
    have : i % 2 = 0 ∨ i % 2 = 1 := by omega
    rcases this with h | h <;> simp [madeCells, h]

theorem new_out (n : Int) (w : World) (h : n < 0 ∨ 65536 < n) :
    Calls Try.prog 52 #[.int .i64 n] w fun e w' => e = .returned (.pointer none) ∧ w = w' := by
  rcases h with h | h
  · go_enter Try.func52, Try.ntmps52
    go_wp2
    go_ret
    exact ⟨rfl, rfl⟩
  · have h0 : ¬ n < 0 := by omega
    go_enter Try.func52, Try.ntmps52
    go_wp2
    go_ret
    exact ⟨rfl, rfl⟩

/-- Cells in memory that was not there. -/
def NewAt (w w' : World) (e : Ending) (l : List (Nat × Nat)) : Prop := ∃ b g, e = .returned (.pointer (some ⟨b, 0, none⟩)) ∧ CellsAt w' b g l ∧ w.heap.size ≤ b ∧ w.heap.size ≤ g ∧ Below w.heap.size w w'

theorem two_new (w : World) (n : Nat) (hn : n ≤ 65536) : CellsAt ((w.alloc (.cells (cc (List.replicate n (0, 0))).toArray 99)).alloc (.cells #[.slice (some ⟨w.heap.size, 0, none⟩) n n] 102)) (w.heap.size + 1) w.heap.size (List.replicate n (0, 0)) := by
  have h1 := Blk.new w 99 (cc (List.replicate n (0, 0))).toArray
  have hs := World.size_alloc w (.cells (cc (List.replicate n (0, 0))).toArray 99)
  have h2 := Blk.new (w.alloc (.cells (cc (List.replicate n (0, 0))).toArray 99)) 102 #[.slice (some ⟨w.heap.size, 0, none⟩) n n]
  rw [hs] at h2
  refine ⟨by rw [List.length_replicate]; exact h2, h1.below (one_alloc _ _).2, by simpa using hn, fun p hp => ?_⟩
  obtain ⟨_, rfl⟩ := List.mem_replicate.1 hp
  exact ⟨by decide, by decide⟩

theorem new_in (n : Nat) (w : World) (hn : n ≤ 65536) :
    Calls Try.prog 52 #[.int .i64 n] w fun e w' => NewAt w w' e (List.replicate n (0, 0)) := by
  obtain ⟨i0, hi, hz0, hz1, hz2⟩ := info_parts infoArr
  have hmk := fun W => run_make_rowN (P := Try.prog) 100 99 i0 _ Try.underlying100 hi hz0 .i64 .i64 n n (Nat.le_refl _) (by rw [hz2]; omega) (by omega) W
  rw [hz1, made_arr] at hmk
  have HN := Lib.hid (two_new w n hn)
  have g1 : ¬ (n : Int) < 0 := by omega
  have g2 : ¬ (65536 : Int) < n := by omega
  clear hi hz0 hz1 hz2
  generalize (cc (List.replicate n (0, 0))).toArray = cs at *
  generalize List.replicate n (0, 0) = l at *
  go_enter Try.func52, Try.ntmps52
  go_wp2
  go_ret
  exact ⟨_, _, rfl, HN.out, by omega, by omega, ((Below.refl _ _).alloc (Nat.le_refl _) _).alloc (by simp) _⟩

theorem cc_one (l : List (Nat × Nat)) : ∀ v ∈ cc l, v.oneCell' = true := by
  intro v hv
  unfold cc at hv
  obtain ⟨p, _, hp⟩ := List.mem_flatMap.1 hv
  simp at hp
  rcases hp with rfl | rfl <;> rfl

/-- What a copy leaves. -/
theorem cells_copied {w w1 : World} {b g n : Nat} {l : List (Nat × Nat)} (h : CellsAt w b g (List.replicate n (0, 0))) (hn : n = l.length) (hfit : ∀ p ∈ l, p.1 < 18446744073709551616 ∧ p.2 < 18446744073709551616) (h1 : w1.heap[g]? = some (.cells (cc l).toArray 99 (0, 0))) (hk : Keep (fun k => k = g) w w1) : CellsAt w1 b g l := by
  have hb := h.blk
  have hl := h.len
  rw [List.length_replicate] at hb hl
  subst hn
  exact ⟨hb.keep hk h.ne, h1, hl, hfit⟩

theorem row_src {w : World} {b g : Nat} {l : List (Nat × Nat)} (h : CellsAt w b g l) : ∀ j v, (cc l)[j]? = some v → w.cell? ((⟨g, 0, none⟩ : Addr).add j) = some v := by
  intro j v hj
  have hadd : (⟨g, 0, none⟩ : Addr).add j = ⟨g, j, none⟩ := by
    by_cases e : j = 0
    · subst e; simp [Addr.add]
    · simp [Addr.add, e]
  rw [hadd, h.row.cell]
  simpa using hj

theorem infoCell : (Try.prog.info? 67).map (fun i => (i.zero, i.size, i.bytes)) = some (some (.agg #[.int .u64 0, .int .u64 0]), 2, 16) := by kernel_rfl

/-- A row of the document's cells of the call's own. -/
structure OwnC (w : World) (B : Nat) (v : Value) (l : List (Nat × Nat)) : Prop where
  own : ∃ h c cur, v = .slice (some ⟨h, 0, none⟩) l.length c ∧ B ≤ h ∧ Blk w h 67 cur ∧ l.length ≤ c ∧ c ≤ 9223372036854775807 ∧ cur.size = c * 2 ∧ cur.toList.take (l.length * 2) = cc l

section
variable {w w' : World} {B : Nat} {v : Value} {l : List (Nat × Nat)}
theorem OwnC.of (h : w.ownsRow B 67 2 v l.length (cc l)) (hn : v ≠ .slice none 0 0) : OwnC w B v l := by
  rcases h.2 with ⟨rfl, _⟩ | ⟨g, cap, cur, rfl, hb, hg, hnc, hm, hs, ht⟩
  · exact absurd rfl hn
  · exact ⟨g, cap, cur, rfl, hb, hg, hnc, by unfold maxLen at hm; omega, hs, ht⟩
theorem OwnC.below (h : OwnC w B v l) (hb : Below w.heap.size w w') : OwnC w' B v l := by
  obtain ⟨g, c, cur, h1, h2, h3, h4⟩ := h
  exact ⟨g, c, cur, h1, h2, h3.below hb, h4⟩
theorem OwnC.keep {g : Nat} {t : TypeId} {cs : Array Value} (h : OwnC w B v l) (hk : Keep (fun k => k = g) w w') (hg : Blk w g t cs) (ht : t ≠ 67) : OwnC w' B v l := by
  obtain ⟨h0, c, cur, h1, h2, h3, h4⟩ := h
  exact ⟨h0, c, cur, h1, h2, h3.keep hk (fun e => (hg.ne_ h3 ht) e.symm), h4⟩
theorem OwnC.base {C : Nat} (h : OwnC w C v l) (hB : B ≤ C) : OwnC w B v l := by
  obtain ⟨g, c, cur, h1, h2, h3, h4⟩ := h
  exact ⟨g, c, cur, h1, by omega, h3, h4⟩
/-- Opened. -/
theorem OwnC.open (h : OwnC w B v l) : ∃ g c, v = .slice (some ⟨g, 0, none⟩) l.length c ∧ l.length ≤ c ∧ c ≤ 9223372036854775807 ∧ (∀ j, j < l.length → w.cell? ⟨g, j * 2, none⟩ = some (.int .u64 (wd l j : Nat)) ∧ w.cell? ⟨g, j * 2 + 1, none⟩ = some (.int .u64 (vr l j : Nat))) ∧ ∀ j v, (cc l)[j]? = some v → w.cell? ((⟨g, 0, none⟩ : Addr).add j) = some v := by
  obtain ⟨g, c, cur, h1, h2, h3, h4, h5, h6, h7⟩ := h
  have hc : ∀ j, j < l.length * 2 → w.cell? ⟨g, j, none⟩ = (cc l)[j]? := fun j hj => by
    rw [h3.cell, ← h7, List.getElem?_take_of_lt hj]; simp
  refine ⟨g, c, h1, h4, h5, fun j hj => ?_, fun j v hv => ?_⟩
  · have := cc_get l j hj
    rw [wd_eq hj] at this
    exact ⟨(hc _ (by omega)).trans this.1, (hc _ (by omega)).trans this.2⟩
  · have hj : j < l.length * 2 := by
      have := (List.getElem?_eq_some_iff.1 hv).1
      rwa [cc_len] at this
    have hadd : (⟨g, 0, none⟩ : Addr).add j = ⟨g, j, none⟩ := by
      by_cases e : j = 0
      · subst e; simp [Addr.add]
      · simp [Addr.add, e]
    rw [hadd, hc j hj]
    exact hv
/-- A write into it. -/
theorem OwnC.set {g c : Nat} (h : OwnC w B (.slice (some ⟨g, 0, none⟩) l.length c) l) (j a x : Nat) : OwnC ((w.setCell ⟨g, j * 2, none⟩ (.int .u64 a)).setCell ⟨g, j * 2 + 1, none⟩ (.int .u64 x)) B (.slice (some ⟨g, 0, none⟩) l.length c) (l.set j (a, x)) := by
  obtain ⟨g', c', cur, h1, h2, h3, h4, h5, h6, h7⟩ := h
  injection h1 with e1 e2 e3
  injection e1 with e1
  injection e1 with e1 _ _
  subst e1 e3
  refine ⟨g, c, _, by rw [List.length_set], h2, (h3.set_ _ _).set_ _ _, by rw [List.length_set]; exact h4, h5, by simpa using h6, ?_⟩
  rw [List.length_set, Array.toList_setIfInBounds, Array.toList_setIfInBounds, ← cc_set, ← h7, List.take_set, List.take_set]
theorem OwnC.frozen {g c : Nat} (h : OwnC w B (.slice (some ⟨g, 0, none⟩) l.length c) l) (i : Nat) : w.frozen? ⟨g, i, none⟩ = false := by
  obtain ⟨g', c', cur, h1, h2, h3, _⟩ := h
  injection h1 with e1 e2 e3
  injection e1 with e1
  injection e1 with e1 _ _
  subst e1
  exact h3.frozen i
end

theorem OwnC.low {w : World} {B g n c : Nat} {l : List (Nat × Nat)} (h : OwnC w B (.slice (some ⟨g, 0, none⟩) n c) l) : B ≤ g := by
  obtain ⟨g', c', cur, h1, h2, _⟩ := h
  injection h1 with e1 e2 e3
  injection e1 with e1
  injection e1 with e1 _ _
  subst e1
  exact h2

theorem write_mid {w w9 : World} {v9 : Value} {l : List (Nat × Nat)} (hb : Below w.heap.size w (w.alloc (.cells #[] 67)))
    (ho : w9.ownsRow w.heap.size 67 2 v9 (0 + l.length) ([] ++ cc l)) (hg : (w.alloc (.cells #[] 67)).grownBy w9 (Value.slice (some ⟨w.heap.size, 0, none⟩) 0 0).ownBlock)
    (hn : v9 = .slice none 0 0 ↔ (Value.slice (some ⟨w.heap.size, 0, none⟩) 0 0) = .slice none 0 0 ∧ l.length = 0) : OwnC w9 w.heap.size v9 l ∧ Below w.heap.size w w9 := by
  rw [Nat.zero_add, List.nil_append] at ho
  refine ⟨OwnC.of ho (fun e => ?_), hb.grown hg hb.size (fun k hk => ?_)⟩
  · have := (hn.1 e).1
    injection this with e1
    cases e1
  · have : w.heap.size = k := by simpa [Value.ownBlock] using hk
    omega

def WriteGives (w w' : World) (e : Ending) (l : List (Nat × Nat)) : Prop := ∃ v, e = .returned v ∧ OwnC w' w.heap.size v l ∧ Below w.heap.size w w'

set_option maxHeartbeats 2000000 in
theorem write_any (B : Nat) (v : Value) (l : List (Nat × Nat)) (j word : Nat) (w : World) (h : OwnC w B v l) (hj : j < l.length) (hl : l.length ≤ 65536) :
    Calls Try.prog 41 #[v, .int .i64 j, .int .u64 word] w fun e w' => WriteGives w w' e (l.set j (word, ver1 (vr l j))) := by
  obtain ⟨g, c, rfl, hc, hcm, hcs, hsrc⟩ := h.open
  have H := Lib.hid h
  have HSRC := Lib.hid hsrc
  obtain ⟨i0, hi, hz0, hz1, hz2⟩ := info_parts infoCell
  have HI := Lib.hid (And.intro hi (And.intro hz0 (And.intro hz1 hz2)))
  clear h hcs hsrc hi hz0 hz1 hz2
  go_enter Try.func41, Try.ntmps41
  have HW1 := Lib.hid (show Below w.heap.size w (w.alloc (.cells #[] 67)) from (one_alloc w _).2)
  have HNEWS : Hid (∀ j v, (cc l)[j]? = some v → (w.alloc (.cells #[] 67)).cell? ((⟨g, 0, none⟩ : Addr).add j) = some v) := Lib.hid (by
    obtain ⟨g', c', e, _, _, _, hs⟩ := (H.out.below HW1.out).open
    injection e with e1 e2 e3
    injection e1 with e1
    injection e1 with e1 _ _
    subst e1
    exact hs)
  have hw1 : IntKind.u64.wrap ((vr l j : Int) + 1) = (ver1 (vr l j) : Nat) := by
    unfold ver1
    rw [IntKind.wrap_u64]; omega
  have hj' : (j : Int) < l.length := by omega
  generalize ver1 (vr l j) = y1 at *
  generalize hy : vr l j = y at *
  have HY := Lib.hid hy
  clear hy
  have HMADE := Lib.hid (World.ownsRow_made (base := w.heap.size) (e := 67) (size := 2) w #[] 0 (Nat.le_refl _) (by unfold maxLen; omega) rfl)
  go_wp2_with ((with_reducible show wpList _ _ _ (⟨some 10, _, _, _, _, _⟩ :: _) _ _); refine wpList_append_own _ rfl (.tmp 8) (.tmp 9) 53 rfl w.heap.size 67 i0 (.agg #[.int .u64 0, .int .u64 0]) 2 16 Try.underlying53 HI.out.1 HI.out.2.1 HI.out.2.2.1 HI.out.2.2.2 rfl (by decide) _ 0 [] rfl HMADE.out ⟨g, 0, none⟩ l.length c (cc l) rfl (cc_len l) HNEWS.out (cc_one l) (by unfold maxLen; omega) (by omega) HW1.out.size ?_; intro v9 w9 hown9 hgrow9 hnil9; have HO9 := Lib.hid (write_mid HW1.out hown9 hgrow9 hnil9); clear hown9 hgrow9 hnil9; obtain ⟨g9, c9, rfl, hc9, hcm9, hcs9, _⟩ := HO9.out.1.open; have k2 := (hcs9 j hj).2; have k1 := (hcs9 j hj).1; rw [HY.out] at k2; generalize wd l j = x at *; have f1 := HO9.out.1.frozen (j * 2); have f2 := HO9.out.1.frozen (j * 2 + 1); have HS := Lib.hid (HO9.out.1.set j word y1); clear hcs9; clear HMADE HNEWS)
  go_ret
  exact ⟨_, rfl, HS.out, (HO9.out.2.setCell HO9.out.1.low _).setCell HO9.out.1.low _⟩

end Go.Proofs.Ytkdjcikilabehaa
