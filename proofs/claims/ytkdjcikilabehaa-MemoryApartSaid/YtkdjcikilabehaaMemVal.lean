/- Blocks, operations, accesses and replies as values, and as cells. No walk. -/
import Derived.Test.YtkdjcikilabehaaMemGet
import Derived.Test.YtkdjcikilabehaaMemRef
import Derived.Deep.MidRow
import Derived.Laws.ResultCell
import Derived.Laws.Rows
namespace Go.Proofs.Ytkdjcikilabehaa
open Go.RowKit

/-- A block's parts. -/
structure Bl where
  k : Int
  lv : Int
  lo : ByteArray
  hi : ByteArray
  la : Bool
  nx : Int
  p1 : Option Addr
  n1 : Nat
  c1 : Nat
  p2 : Option Addr
  n2 : Nat
  c2 : Nat
  p3 : Option Addr
  n3 : Nat
  c3 : Nat
  th : Int
  ac : Int
  ak : ByteArray
  av : Nat
  p4 : Option Addr
  n4 : Nat
  c4 : Nat
  p5 : Option Addr
  n5 : Nat
  c5 : Nat
  p6 : Option Addr
  n6 : Nat
  c6 : Nat
  p7 : Option Addr
  n7 : Nat
  c7 : Nat
structure OpV where
  k : Int
  key : ByteArray
  to : ByteArray
  v : Nat
  lim : Int
structure AcV where
  k : Int
  at_ : Int
  ver : Nat
  word : Nat
  b : Bl
  o : OpV
def Bl.val (b : Bl) : Value := .agg #[.int .i64 b.k, .int .i64 b.lv, .string b.lo, .string b.hi, .bool b.la, .int .i64 b.nx, .slice b.p1 b.n1 b.c1, .slice b.p2 b.n2 b.c2, .slice b.p3 b.n3 b.c3, .int .i64 b.th, .int .i64 b.ac, .string b.ak, .int .u64 b.av, .slice b.p4 b.n4 b.c4, .slice b.p5 b.n5 b.c5, .slice b.p6 b.n6 b.c6, .slice b.p7 b.n7 b.c7]
def Bl.cells (b : Bl) : List Value := [.int .i64 b.k, .int .i64 b.lv, .string b.lo, .string b.hi, .bool b.la, .int .i64 b.nx, .slice b.p1 b.n1 b.c1, .slice b.p2 b.n2 b.c2, .slice b.p3 b.n3 b.c3, .int .i64 b.th, .int .i64 b.ac, .string b.ak, .int .u64 b.av, .slice b.p4 b.n4 b.c4, .slice b.p5 b.n5 b.c5, .slice b.p6 b.n6 b.c6, .slice b.p7 b.n7 b.c7]
def OpV.val (o : OpV) : Value := .agg #[.int .i64 o.k, .string o.key, .string o.to, .int .u64 o.v, .int .i64 o.lim]
def OpV.cells (o : OpV) : List Value := [.int .i64 o.k, .string o.key, .string o.to, .int .u64 o.v, .int .i64 o.lim]
def AcV.val (a : AcV) : Value := .agg #[.int .i64 a.k, .int .i64 a.at_, .int .u64 a.ver, .int .u64 a.word, .int .i64 a.b.k, .int .i64 a.b.lv, .string a.b.lo, .string a.b.hi, .bool a.b.la, .int .i64 a.b.nx, .slice a.b.p1 a.b.n1 a.b.c1, .slice a.b.p2 a.b.n2 a.b.c2, .slice a.b.p3 a.b.n3 a.b.c3, .int .i64 a.b.th, .int .i64 a.b.ac, .string a.b.ak, .int .u64 a.b.av, .slice a.b.p4 a.b.n4 a.b.c4, .slice a.b.p5 a.b.n5 a.b.c5, .slice a.b.p6 a.b.n6 a.b.c6, .slice a.b.p7 a.b.n7 a.b.c7, .int .i64 a.o.k, .string a.o.key, .string a.o.to, .int .u64 a.o.v, .int .i64 a.o.lim]
def AcV.cells (a : AcV) : List Value := [.int .i64 a.k, .int .i64 a.at_, .int .u64 a.ver, .int .u64 a.word, .int .i64 a.b.k, .int .i64 a.b.lv, .string a.b.lo, .string a.b.hi, .bool a.b.la, .int .i64 a.b.nx, .slice a.b.p1 a.b.n1 a.b.c1, .slice a.b.p2 a.b.n2 a.b.c2, .slice a.b.p3 a.b.n3 a.b.c3, .int .i64 a.b.th, .int .i64 a.b.ac, .string a.b.ak, .int .u64 a.b.av, .slice a.b.p4 a.b.n4 a.b.c4, .slice a.b.p5 a.b.n5 a.b.c5, .slice a.b.p6 a.b.n6 a.b.c6, .slice a.b.p7 a.b.n7 a.b.c7, .int .i64 a.o.k, .string a.o.key, .string a.o.to, .int .u64 a.o.v, .int .i64 a.o.lim]
def Bl.zero : Bl := ⟨0, 0, ⟨#[]⟩, ⟨#[]⟩, false, 0, none, 0, 0, none, 0, 0, none, 0, 0, 0, 0, ⟨#[]⟩, 0, none, 0, 0, none, 0, 0, none, 0, 0, none, 0, 0⟩
def OpV.zero : OpV := ⟨0, ⟨#[]⟩, ⟨#[]⟩, 0, 0⟩
/-- What an access tells. -/
def rpV (ok : Bool) (word ver : Nat) (b : Bl) (o : OpV) : Value := .agg #[.bool ok, .int .u64 word, .int .u64 ver, .int .i64 b.k, .int .i64 b.lv, .string b.lo, .string b.hi, .bool b.la, .int .i64 b.nx, .slice b.p1 b.n1 b.c1, .slice b.p2 b.n2 b.c2, .slice b.p3 b.n3 b.c3, .int .i64 b.th, .int .i64 b.ac, .string b.ak, .int .u64 b.av, .slice b.p4 b.n4 b.c4, .slice b.p5 b.n5 b.c5, .slice b.p6 b.n6 b.c6, .slice b.p7 b.n7 b.c7, .int .i64 o.k, .string o.key, .string o.to, .int .u64 o.v, .int .i64 o.lim]

/-- The cells of a block are written, one after the other. -/
def wrs (W : World) (g : Nat) : Nat → List Value → World
  | _, [] => W
  | i, v :: vs => wrs (W.setCell ⟨g, i, none⟩ v) g (i + 1) vs
theorem blk_wrs {g : Nat} {t : TypeId} : ∀ (vs : List Value) (W : World) (pre rest : List Value), Blk W g t (pre ++ rest).toArray → rest.length = vs.length → Blk (wrs W g pre.length vs) g t (pre ++ vs).toArray
  | [], W, pre, rest, h, hl => by
    have : rest = [] := List.eq_nil_of_length_eq_zero hl
    subst this
    exact h
  | v :: vs, W, pre, [], h, hl => by simp at hl
  | v :: vs, W, pre, r :: rest, h, hl => by
    have h1 := h.set_ pre.length v
    rw [List.setIfInBounds_toArray, show (pre ++ r :: rest).set pre.length v = (pre ++ [v]) ++ rest by
      rw [List.set_append_right _ _ (Nat.le_refl _), Nat.sub_self, List.set_cons_zero, List.append_assoc]; rfl] at h1
    have h2 := blk_wrs vs _ (pre ++ [v]) rest h1 (by simpa using hl)
    rw [List.length_append, List.append_assoc] at h2
    exact h2
theorem blk_fill {g : Nat} {t : TypeId} {W : World} {zs : List Value} (vs : List Value) (h : Blk W g t zs.toArray) (hl : zs.length = vs.length) : Blk (wrs W g 0 vs) g t vs.toArray := blk_wrs vs W [] zs h hl
theorem wrs_keep {g : Nat} : ∀ (vs : List Value) (W : World) (i : Nat), Keep (fun k => k = g) W (wrs W g i vs)
  | [], W, _ => Keep.refl _ W
  | v :: vs, W, i => ((Keep.refl (fun k => k = g) W).set (p := ⟨g, i, none⟩) (fun _ => rfl) v).trans (wrs_keep vs _ (i + 1)) (fun _ _ e => e)
theorem wrs_below {g B : Nat} (hB : B ≤ g) (vs : List Value) {w W : World} (i : Nat) (h : Below B w W) (hs : B ≤ W.heap.size) : Below B w (wrs W g i vs) :=
  h.trans ((wrs_keep vs W i).below hs (fun k e => by rw [e]; exact hB))
theorem fill17 {W : World} {g : Nat} {t : TypeId} {z0 z1 z2 z3 z4 z5 z6 z7 z8 z9 z10 z11 z12 z13 z14 z15 z16 : Value} (v0 v1 v2 v3 v4 v5 v6 v7 v8 v9 v10 v11 v12 v13 v14 v15 v16 : Value) (h : Blk W g t #[z0, z1, z2, z3, z4, z5, z6, z7, z8, z9, z10, z11, z12, z13, z14, z15, z16]) : Blk (((((((((((((((((W.setCell ⟨g, 0, none⟩ v0).setCell ⟨g, 1, none⟩ v1).setCell ⟨g, 2, none⟩ v2).setCell ⟨g, 3, none⟩ v3).setCell ⟨g, 4, none⟩ v4).setCell ⟨g, 5, none⟩ v5).setCell ⟨g, 6, none⟩ v6).setCell ⟨g, 7, none⟩ v7).setCell ⟨g, 8, none⟩ v8).setCell ⟨g, 9, none⟩ v9).setCell ⟨g, 10, none⟩ v10).setCell ⟨g, 11, none⟩ v11).setCell ⟨g, 12, none⟩ v12).setCell ⟨g, 13, none⟩ v13).setCell ⟨g, 14, none⟩ v14).setCell ⟨g, 15, none⟩ v15).setCell ⟨g, 16, none⟩ v16) g t #[v0, v1, v2, v3, v4, v5, v6, v7, v8, v9, v10, v11, v12, v13, v14, v15, v16] ∧ Keep (fun k => k = g) W (((((((((((((((((W.setCell ⟨g, 0, none⟩ v0).setCell ⟨g, 1, none⟩ v1).setCell ⟨g, 2, none⟩ v2).setCell ⟨g, 3, none⟩ v3).setCell ⟨g, 4, none⟩ v4).setCell ⟨g, 5, none⟩ v5).setCell ⟨g, 6, none⟩ v6).setCell ⟨g, 7, none⟩ v7).setCell ⟨g, 8, none⟩ v8).setCell ⟨g, 9, none⟩ v9).setCell ⟨g, 10, none⟩ v10).setCell ⟨g, 11, none⟩ v11).setCell ⟨g, 12, none⟩ v12).setCell ⟨g, 13, none⟩ v13).setCell ⟨g, 14, none⟩ v14).setCell ⟨g, 15, none⟩ v15).setCell ⟨g, 16, none⟩ v16) := ⟨blk_fill [v0, v1, v2, v3, v4, v5, v6, v7, v8, v9, v10, v11, v12, v13, v14, v15, v16] h rfl, wrs_keep [v0, v1, v2, v3, v4, v5, v6, v7, v8, v9, v10, v11, v12, v13, v14, v15, v16] W 0⟩
theorem fill25 {W : World} {g : Nat} {t : TypeId} {z0 z1 z2 z3 z4 z5 z6 z7 z8 z9 z10 z11 z12 z13 z14 z15 z16 z17 z18 z19 z20 z21 z22 z23 z24 : Value} (v0 v1 v2 v3 v4 v5 v6 v7 v8 v9 v10 v11 v12 v13 v14 v15 v16 v17 v18 v19 v20 v21 v22 v23 v24 : Value) (h : Blk W g t #[z0, z1, z2, z3, z4, z5, z6, z7, z8, z9, z10, z11, z12, z13, z14, z15, z16, z17, z18, z19, z20, z21, z22, z23, z24]) : Blk (((((((((((((((((((((((((W.setCell ⟨g, 0, none⟩ v0).setCell ⟨g, 1, none⟩ v1).setCell ⟨g, 2, none⟩ v2).setCell ⟨g, 3, none⟩ v3).setCell ⟨g, 4, none⟩ v4).setCell ⟨g, 5, none⟩ v5).setCell ⟨g, 6, none⟩ v6).setCell ⟨g, 7, none⟩ v7).setCell ⟨g, 8, none⟩ v8).setCell ⟨g, 9, none⟩ v9).setCell ⟨g, 10, none⟩ v10).setCell ⟨g, 11, none⟩ v11).setCell ⟨g, 12, none⟩ v12).setCell ⟨g, 13, none⟩ v13).setCell ⟨g, 14, none⟩ v14).setCell ⟨g, 15, none⟩ v15).setCell ⟨g, 16, none⟩ v16).setCell ⟨g, 17, none⟩ v17).setCell ⟨g, 18, none⟩ v18).setCell ⟨g, 19, none⟩ v19).setCell ⟨g, 20, none⟩ v20).setCell ⟨g, 21, none⟩ v21).setCell ⟨g, 22, none⟩ v22).setCell ⟨g, 23, none⟩ v23).setCell ⟨g, 24, none⟩ v24) g t #[v0, v1, v2, v3, v4, v5, v6, v7, v8, v9, v10, v11, v12, v13, v14, v15, v16, v17, v18, v19, v20, v21, v22, v23, v24] ∧ Keep (fun k => k = g) W (((((((((((((((((((((((((W.setCell ⟨g, 0, none⟩ v0).setCell ⟨g, 1, none⟩ v1).setCell ⟨g, 2, none⟩ v2).setCell ⟨g, 3, none⟩ v3).setCell ⟨g, 4, none⟩ v4).setCell ⟨g, 5, none⟩ v5).setCell ⟨g, 6, none⟩ v6).setCell ⟨g, 7, none⟩ v7).setCell ⟨g, 8, none⟩ v8).setCell ⟨g, 9, none⟩ v9).setCell ⟨g, 10, none⟩ v10).setCell ⟨g, 11, none⟩ v11).setCell ⟨g, 12, none⟩ v12).setCell ⟨g, 13, none⟩ v13).setCell ⟨g, 14, none⟩ v14).setCell ⟨g, 15, none⟩ v15).setCell ⟨g, 16, none⟩ v16).setCell ⟨g, 17, none⟩ v17).setCell ⟨g, 18, none⟩ v18).setCell ⟨g, 19, none⟩ v19).setCell ⟨g, 20, none⟩ v20).setCell ⟨g, 21, none⟩ v21).setCell ⟨g, 22, none⟩ v22).setCell ⟨g, 23, none⟩ v23).setCell ⟨g, 24, none⟩ v24) := ⟨blk_fill [v0, v1, v2, v3, v4, v5, v6, v7, v8, v9, v10, v11, v12, v13, v14, v15, v16, v17, v18, v19, v20, v21, v22, v23, v24] h rfl, wrs_keep [v0, v1, v2, v3, v4, v5, v6, v7, v8, v9, v10, v11, v12, v13, v14, v15, v16, v17, v18, v19, v20, v21, v22, v23, v24] W 0⟩
theorem fill26 {W : World} {g : Nat} {t : TypeId} {z0 z1 z2 z3 z4 z5 z6 z7 z8 z9 z10 z11 z12 z13 z14 z15 z16 z17 z18 z19 z20 z21 z22 z23 z24 z25 : Value} (v0 v1 v2 v3 v4 v5 v6 v7 v8 v9 v10 v11 v12 v13 v14 v15 v16 v17 v18 v19 v20 v21 v22 v23 v24 v25 : Value) (h : Blk W g t #[z0, z1, z2, z3, z4, z5, z6, z7, z8, z9, z10, z11, z12, z13, z14, z15, z16, z17, z18, z19, z20, z21, z22, z23, z24, z25]) : Blk ((((((((((((((((((((((((((W.setCell ⟨g, 0, none⟩ v0).setCell ⟨g, 1, none⟩ v1).setCell ⟨g, 2, none⟩ v2).setCell ⟨g, 3, none⟩ v3).setCell ⟨g, 4, none⟩ v4).setCell ⟨g, 5, none⟩ v5).setCell ⟨g, 6, none⟩ v6).setCell ⟨g, 7, none⟩ v7).setCell ⟨g, 8, none⟩ v8).setCell ⟨g, 9, none⟩ v9).setCell ⟨g, 10, none⟩ v10).setCell ⟨g, 11, none⟩ v11).setCell ⟨g, 12, none⟩ v12).setCell ⟨g, 13, none⟩ v13).setCell ⟨g, 14, none⟩ v14).setCell ⟨g, 15, none⟩ v15).setCell ⟨g, 16, none⟩ v16).setCell ⟨g, 17, none⟩ v17).setCell ⟨g, 18, none⟩ v18).setCell ⟨g, 19, none⟩ v19).setCell ⟨g, 20, none⟩ v20).setCell ⟨g, 21, none⟩ v21).setCell ⟨g, 22, none⟩ v22).setCell ⟨g, 23, none⟩ v23).setCell ⟨g, 24, none⟩ v24).setCell ⟨g, 25, none⟩ v25) g t #[v0, v1, v2, v3, v4, v5, v6, v7, v8, v9, v10, v11, v12, v13, v14, v15, v16, v17, v18, v19, v20, v21, v22, v23, v24, v25] ∧ Keep (fun k => k = g) W ((((((((((((((((((((((((((W.setCell ⟨g, 0, none⟩ v0).setCell ⟨g, 1, none⟩ v1).setCell ⟨g, 2, none⟩ v2).setCell ⟨g, 3, none⟩ v3).setCell ⟨g, 4, none⟩ v4).setCell ⟨g, 5, none⟩ v5).setCell ⟨g, 6, none⟩ v6).setCell ⟨g, 7, none⟩ v7).setCell ⟨g, 8, none⟩ v8).setCell ⟨g, 9, none⟩ v9).setCell ⟨g, 10, none⟩ v10).setCell ⟨g, 11, none⟩ v11).setCell ⟨g, 12, none⟩ v12).setCell ⟨g, 13, none⟩ v13).setCell ⟨g, 14, none⟩ v14).setCell ⟨g, 15, none⟩ v15).setCell ⟨g, 16, none⟩ v16).setCell ⟨g, 17, none⟩ v17).setCell ⟨g, 18, none⟩ v18).setCell ⟨g, 19, none⟩ v19).setCell ⟨g, 20, none⟩ v20).setCell ⟨g, 21, none⟩ v21).setCell ⟨g, 22, none⟩ v22).setCell ⟨g, 23, none⟩ v23).setCell ⟨g, 24, none⟩ v24).setCell ⟨g, 25, none⟩ v25) := ⟨blk_fill [v0, v1, v2, v3, v4, v5, v6, v7, v8, v9, v10, v11, v12, v13, v14, v15, v16, v17, v18, v19, v20, v21, v22, v23, v24, v25] h rfl, wrs_keep [v0, v1, v2, v3, v4, v5, v6, v7, v8, v9, v10, v11, v12, v13, v14, v15, v16, v17, v18, v19, v20, v21, v22, v23, v24, v25] W 0⟩
theorem cells17 {W : World} {g : Nat} {t : TypeId} {v0 v1 v2 v3 v4 v5 v6 v7 v8 v9 v10 v11 v12 v13 v14 v15 v16 : Value} (h : Blk W g t #[v0, v1, v2, v3, v4, v5, v6, v7, v8, v9, v10, v11, v12, v13, v14, v15, v16]) : (∀ i, W.frozen? ⟨g, i, none⟩ = false) ∧ W.cell? ⟨g, 0, none⟩ = some v0 ∧ W.cell? ⟨g, 1, none⟩ = some v1 ∧ W.cell? ⟨g, 2, none⟩ = some v2 ∧ W.cell? ⟨g, 3, none⟩ = some v3 ∧ W.cell? ⟨g, 4, none⟩ = some v4 ∧ W.cell? ⟨g, 5, none⟩ = some v5 ∧ W.cell? ⟨g, 6, none⟩ = some v6 ∧ W.cell? ⟨g, 7, none⟩ = some v7 ∧ W.cell? ⟨g, 8, none⟩ = some v8 ∧ W.cell? ⟨g, 9, none⟩ = some v9 ∧ W.cell? ⟨g, 10, none⟩ = some v10 ∧ W.cell? ⟨g, 11, none⟩ = some v11 ∧ W.cell? ⟨g, 12, none⟩ = some v12 ∧ W.cell? ⟨g, 13, none⟩ = some v13 ∧ W.cell? ⟨g, 14, none⟩ = some v14 ∧ W.cell? ⟨g, 15, none⟩ = some v15 ∧ W.cell? ⟨g, 16, none⟩ = some v16 := ⟨h.frozen, (h.cell 0).trans rfl, (h.cell 1).trans rfl, (h.cell 2).trans rfl, (h.cell 3).trans rfl, (h.cell 4).trans rfl, (h.cell 5).trans rfl, (h.cell 6).trans rfl, (h.cell 7).trans rfl, (h.cell 8).trans rfl, (h.cell 9).trans rfl, (h.cell 10).trans rfl, (h.cell 11).trans rfl, (h.cell 12).trans rfl, (h.cell 13).trans rfl, (h.cell 14).trans rfl, (h.cell 15).trans rfl, (h.cell 16).trans rfl⟩
theorem cells25 {W : World} {g : Nat} {t : TypeId} {v0 v1 v2 v3 v4 v5 v6 v7 v8 v9 v10 v11 v12 v13 v14 v15 v16 v17 v18 v19 v20 v21 v22 v23 v24 : Value} (h : Blk W g t #[v0, v1, v2, v3, v4, v5, v6, v7, v8, v9, v10, v11, v12, v13, v14, v15, v16, v17, v18, v19, v20, v21, v22, v23, v24]) : (∀ i, W.frozen? ⟨g, i, none⟩ = false) ∧ W.cell? ⟨g, 0, none⟩ = some v0 ∧ W.cell? ⟨g, 1, none⟩ = some v1 ∧ W.cell? ⟨g, 2, none⟩ = some v2 ∧ W.cell? ⟨g, 3, none⟩ = some v3 ∧ W.cell? ⟨g, 4, none⟩ = some v4 ∧ W.cell? ⟨g, 5, none⟩ = some v5 ∧ W.cell? ⟨g, 6, none⟩ = some v6 ∧ W.cell? ⟨g, 7, none⟩ = some v7 ∧ W.cell? ⟨g, 8, none⟩ = some v8 ∧ W.cell? ⟨g, 9, none⟩ = some v9 ∧ W.cell? ⟨g, 10, none⟩ = some v10 ∧ W.cell? ⟨g, 11, none⟩ = some v11 ∧ W.cell? ⟨g, 12, none⟩ = some v12 ∧ W.cell? ⟨g, 13, none⟩ = some v13 ∧ W.cell? ⟨g, 14, none⟩ = some v14 ∧ W.cell? ⟨g, 15, none⟩ = some v15 ∧ W.cell? ⟨g, 16, none⟩ = some v16 ∧ W.cell? ⟨g, 17, none⟩ = some v17 ∧ W.cell? ⟨g, 18, none⟩ = some v18 ∧ W.cell? ⟨g, 19, none⟩ = some v19 ∧ W.cell? ⟨g, 20, none⟩ = some v20 ∧ W.cell? ⟨g, 21, none⟩ = some v21 ∧ W.cell? ⟨g, 22, none⟩ = some v22 ∧ W.cell? ⟨g, 23, none⟩ = some v23 ∧ W.cell? ⟨g, 24, none⟩ = some v24 := ⟨h.frozen, (h.cell 0).trans rfl, (h.cell 1).trans rfl, (h.cell 2).trans rfl, (h.cell 3).trans rfl, (h.cell 4).trans rfl, (h.cell 5).trans rfl, (h.cell 6).trans rfl, (h.cell 7).trans rfl, (h.cell 8).trans rfl, (h.cell 9).trans rfl, (h.cell 10).trans rfl, (h.cell 11).trans rfl, (h.cell 12).trans rfl, (h.cell 13).trans rfl, (h.cell 14).trans rfl, (h.cell 15).trans rfl, (h.cell 16).trans rfl, (h.cell 17).trans rfl, (h.cell 18).trans rfl, (h.cell 19).trans rfl, (h.cell 20).trans rfl, (h.cell 21).trans rfl, (h.cell 22).trans rfl, (h.cell 23).trans rfl, (h.cell 24).trans rfl⟩
theorem cells26 {W : World} {g : Nat} {t : TypeId} {v0 v1 v2 v3 v4 v5 v6 v7 v8 v9 v10 v11 v12 v13 v14 v15 v16 v17 v18 v19 v20 v21 v22 v23 v24 v25 : Value} (h : Blk W g t #[v0, v1, v2, v3, v4, v5, v6, v7, v8, v9, v10, v11, v12, v13, v14, v15, v16, v17, v18, v19, v20, v21, v22, v23, v24, v25]) : (∀ i, W.frozen? ⟨g, i, none⟩ = false) ∧ W.cell? ⟨g, 0, none⟩ = some v0 ∧ W.cell? ⟨g, 1, none⟩ = some v1 ∧ W.cell? ⟨g, 2, none⟩ = some v2 ∧ W.cell? ⟨g, 3, none⟩ = some v3 ∧ W.cell? ⟨g, 4, none⟩ = some v4 ∧ W.cell? ⟨g, 5, none⟩ = some v5 ∧ W.cell? ⟨g, 6, none⟩ = some v6 ∧ W.cell? ⟨g, 7, none⟩ = some v7 ∧ W.cell? ⟨g, 8, none⟩ = some v8 ∧ W.cell? ⟨g, 9, none⟩ = some v9 ∧ W.cell? ⟨g, 10, none⟩ = some v10 ∧ W.cell? ⟨g, 11, none⟩ = some v11 ∧ W.cell? ⟨g, 12, none⟩ = some v12 ∧ W.cell? ⟨g, 13, none⟩ = some v13 ∧ W.cell? ⟨g, 14, none⟩ = some v14 ∧ W.cell? ⟨g, 15, none⟩ = some v15 ∧ W.cell? ⟨g, 16, none⟩ = some v16 ∧ W.cell? ⟨g, 17, none⟩ = some v17 ∧ W.cell? ⟨g, 18, none⟩ = some v18 ∧ W.cell? ⟨g, 19, none⟩ = some v19 ∧ W.cell? ⟨g, 20, none⟩ = some v20 ∧ W.cell? ⟨g, 21, none⟩ = some v21 ∧ W.cell? ⟨g, 22, none⟩ = some v22 ∧ W.cell? ⟨g, 23, none⟩ = some v23 ∧ W.cell? ⟨g, 24, none⟩ = some v24 ∧ W.cell? ⟨g, 25, none⟩ = some v25 := ⟨h.frozen, (h.cell 0).trans rfl, (h.cell 1).trans rfl, (h.cell 2).trans rfl, (h.cell 3).trans rfl, (h.cell 4).trans rfl, (h.cell 5).trans rfl, (h.cell 6).trans rfl, (h.cell 7).trans rfl, (h.cell 8).trans rfl, (h.cell 9).trans rfl, (h.cell 10).trans rfl, (h.cell 11).trans rfl, (h.cell 12).trans rfl, (h.cell 13).trans rfl, (h.cell 14).trans rfl, (h.cell 15).trans rfl, (h.cell 16).trans rfl, (h.cell 17).trans rfl, (h.cell 18).trans rfl, (h.cell 19).trans rfl, (h.cell 20).trans rfl, (h.cell 21).trans rfl, (h.cell 22).trans rfl, (h.cell 23).trans rfl, (h.cell 24).trans rfl, (h.cell 25).trans rfl⟩

theorem there_of {W : World} {g : Nat} {t : TypeId} {cs : Array Value} (h : Blk W g t cs) : W.there g 0 cs.size := fun j hj => by
  rw [Nat.zero_add, h.cell j, h.frozen j]
  exact ⟨by simp [hj], rfl⟩
theorem wrs_eq (g : Nat) : ∀ (vs : List Value) (W : World) (i : Nat), wrs W g i vs = W.setCells g i vs
  | [], _, _ => rfl
  | _ :: vs, _, i => wrs_eq g vs _ (i + 1)
theorem fill_wrs {W : World} {g : Nat} {t : TypeId} {cs : Array Value} (h : Blk W g t cs) (vs : List Value) (hl : vs.length = cs.size) : Blk (wrs W g 0 vs) g t vs.toArray ∧ Keep (fun k => k = g) W (wrs W g 0 vs) :=
  ⟨blk_fill (zs := cs.toList) vs (by simpa using h) (by simp [hl]), wrs_keep vs W 0⟩

section
variable {P : Program} {ops : Array Oper} {rest : List Oper} {o : Oper} {a : Act} {w : World} {Q : Exit → Act → World → Prop}
theorem wp_store_blk {K : Act → World → Prop} (ty : TypeId) (x y : Operand) (ho : o.op = .store ty x y) (g : Nat) (t : TypeId) (cs : Array Value) (vs : List Value)
    (hx : a.eval x = .pointer (some ⟨g, 0, none⟩)) (hy : a.eval y = .agg vs.toArray) (hb : Blk w g t cs) (hl : vs.length = cs.size) (hi : (P.info? ty).map (·.size) = some vs.length) (h1 : ∀ v ∈ vs, v.oneCell' = true)
    (h : ∀ W, Hid (Blk W g t vs.toArray) → Hid (Keep (fun k => k = g) w W) → K (a.put o.dst undef) W) : o.wp P a w K Q := by
  obtain ⟨hF, hK⟩ := fill_wrs hb vs hl
  refine wp_store_mid ty x y ho g 0 vs.toArray hx hy ?_ (by simpa using hi) (all_oneCell_toArray h1) ?_
  · rw [List.size_toArray, hl]; exact there_of hb
  · rw [show vs.toArray.toList = vs from by simp, ← wrs_eq]
    exact h _ (Lib.hid hF) (Lib.hid hK)
/-- A whole struct is stored, as a step of a region. -/
theorem wpList_store_blk (hgd : o.guard = none) (ty : TypeId) (x y : Operand) (ho : o.op = .store ty x y) (g : Nat) (t : TypeId) (cs : Array Value) (vs : List Value)
    (hx : a.eval x = .pointer (some ⟨g, 0, none⟩)) (hy : a.eval y = .agg vs.toArray) (hb : Blk w g t cs) (hl : vs.length = cs.size) (hi : (P.info? ty).map (·.size) = some vs.length) (h1 : ∀ v ∈ vs, v.oneCell' = true)
    (h : ∀ W, Hid (Blk W g t vs.toArray) → Hid (Keep (fun k => k = g) w W) → wpList P ops Q rest (a.put o.dst undef) W) : wpList P ops Q (o :: rest) a w :=
  wpList_plain hgd fun _ hK => wp_store_blk ty x y ho g t cs vs hx hy hb hl hi h1 (fun W h2 h3 => hK _ _ (h W h2 h3))
theorem step_store_blk {K : Act → World → Prop} {E : Prop} (hgd : o.guard = none) (ty : TypeId) (x y : Operand) (ho : o.op = .store ty x y) (g : Nat) (t : TypeId) (cs : Array Value) (vs : List Value)
    (hx : a.eval x = .pointer (some ⟨g, 0, none⟩)) (hy : a.eval y = .agg vs.toArray) (hb : Blk w g t cs) (hl : vs.length = cs.size) (hi : (P.info? ty).map (·.size) = some vs.length) (h1 : ∀ v ∈ vs, v.oneCell' = true)
    (h : ∀ W, Hid (Blk W g t vs.toArray) → Hid (Keep (fun k => k = g) w W) → K (a.put o.dst undef) W) : if Region.wanted o (yielded ops a.tmps) = true then Oper.wp P o a w K Q else E := by
  have hw : Region.wanted o (yielded ops a.tmps) = true := by simp [Region.wanted, hgd]
  rw [if_pos hw]
  exact wp_store_blk ty x y ho g t cs vs hx hy hb hl hi h1 h
theorem range_of {g : Nat} {t : TypeId} {vs : List Value} (hb : Blk w g t vs.toArray) : w.rangeAt g 0 vs := fun j v hj => by
  rw [Nat.zero_add, hb.cell j]; simpa using hj
/-- A whole struct is read. -/
theorem wpList_load_blk (hgd : o.guard = none) (ty : TypeId) (x : Operand) (ho : o.op = .load ty x) (g : Nat) (t : TypeId) (vs : List Value) (d : TypeDesc) (hx : a.eval x = .pointer (some ⟨g, 0, none⟩)) (hb : Blk w g t vs.toArray)
    (hu : P.underlying ty = some d) (hd : d.isRow = true) (hi : (P.info? ty).map (·.size) = some vs.length) (h : wpList P ops Q rest (a.put o.dst (.agg vs.toArray)) w) : wpList P ops Q (o :: rest) a w :=
  wpList_load_mid hgd ty x ho g 0 hx vs d (range_of hb) hu hd hi h
theorem step_load_blk {K : Act → World → Prop} {E : Prop} (hgd : o.guard = none) (ty : TypeId) (x : Operand) (ho : o.op = .load ty x) (g : Nat) (t : TypeId) (vs : List Value) (d : TypeDesc) (hx : a.eval x = .pointer (some ⟨g, 0, none⟩)) (hb : Blk w g t vs.toArray)
    (hu : P.underlying ty = some d) (hd : d.isRow = true) (hi : (P.info? ty).map (·.size) = some vs.length) (h : K (a.put o.dst (.agg vs.toArray)) w) : if Region.wanted o (yielded ops a.tmps) = true then Oper.wp P o a w K Q else E := by
  have hw : Region.wanted o (yielded ops a.tmps) = true := by simp [Region.wanted, hgd]
  rw [if_pos hw]
  exact wp_load_mid ty x ho g 0 hx vs d (range_of hb) hu hd hi h
end
theorem szBlock : (Try.prog.info? 41).map (·.size) = some 17 := by kernel_rfl
theorem szReply : (Try.prog.info? 45).map (·.size) = some 25 := by kernel_rfl
theorem szAccess : (Try.prog.info? 48).map (·.size) = some 26 := by kernel_rfl

theorem ret_reply {fn : Func} {p : Tmp} {tmps : Array Value} {w : World} {g : Nat} {vs : List Value} (h : fn.results = #[.cell p 45]) (hp : tmps.getD p undef = .pointer (some ⟨g, 0, none⟩)) (hb : Blk w g 45 vs.toArray) (hl : vs.length = 25) :
    (results fn tmps).run Try.prog w = .ok (.agg vs.toArray) w :=
  results_cell_row h tmps w g _ _ (0, 0) _ hp hb Try.underlying45 rfl (by rw [szReply]; simp [hl])
theorem ret_block_row {fn : Func} {p : Tmp} {tmps : Array Value} {w : World} {g : Nat} {vs : List Value} (h : fn.results = #[.cell p 41]) (hp : tmps.getD p undef = .pointer (some ⟨g, 0, none⟩)) (hb : Blk w g 41 vs.toArray) (hl : vs.length = 17) :
    (results fn tmps).run Try.prog w = .ok (.agg vs.toArray) w :=
  results_cell_row h tmps w g _ _ (0, 0) _ hp hb Try.underlying41 rfl (by rw [szBlock]; simp [hl])
theorem ret_block_tmp {fn : Func} {p u : Tmp} {tmps : Array Value} {w : World} {g : Nat} {vs : List Value} (h : fn.results = #[.cell p 41, .tmp u]) (hp : tmps.getD p undef = .pointer (some ⟨g, 0, none⟩)) (hb : Blk w g 41 vs.toArray) (hl : vs.length = 17) :
    (results fn tmps).run Try.prog w = .ok (.tuple #[.agg vs.toArray, tmps.getD u undef]) w := by
  have hv : (loadVar 41 ⟨g, 0, none⟩).run Try.prog w = .ok (.agg vs.toArray) w := run_loadVar_row w g _ _ _ (0, 0) _ hb Try.underlying41 rfl (by rw [szBlock]; simp [hl])
  have ha : (asAddr (.pointer (some ⟨g, 0, none⟩))).run Try.prog w = .ok ⟨g, 0, none⟩ w := by simp [asAddr]
  rw [results_cell_tmp h, hp, ha]
  simp only [Result.andThen]
  rw [hv]

theorem two_blk (w : World) (t1 t2 : TypeId) (c1 c2 : Array Value) : Blk ((w.alloc (.cells c1 t1)).alloc (.cells c2 t2)) w.heap.size t1 c1 ∧ Blk ((w.alloc (.cells c1 t1)).alloc (.cells c2 t2)) (w.heap.size + 1) t2 c2 ∧ Below w.heap.size w ((w.alloc (.cells c1 t1)).alloc (.cells c2 t2)) := by
  have hs := World.size_alloc w (.cells c1 t1)
  have h2 := Blk.new (w.alloc (.cells c1 t1)) t2 c2
  rw [hs] at h2
  exact ⟨(Blk.new w t1 c1).below (one_alloc _ _).2, h2, ((Below.refl _ _).alloc (Nat.le_refl _) _).alloc (by rw [hs]; omega) _⟩
end Go.Proofs.Ytkdjcikilabehaa
