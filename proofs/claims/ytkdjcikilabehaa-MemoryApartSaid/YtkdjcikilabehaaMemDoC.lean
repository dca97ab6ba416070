/- do of a memory in the world at AccLoad, AccStore, AccCas; Do. Condition: words are words. -/
import Derived.Test.YtkdjcikilabehaaMemWr
import Derived.Test.YtkdjcikilabehaaMemDoM
namespace Go.Proofs.Ytkdjcikilabehaa
open Go.RowKit

/-- A cell's word, version, and whether it is there. -/
def ldB (l : List (Nat × Nat)) (i : Int) : Bool := decide (0 ≤ i ∧ i < (l.length : Int))
def ldW (l : List (Nat × Nat)) (i : Int) : Nat := if 0 ≤ i ∧ i < (l.length : Int) then wd l i.toNat else 0
def ldR (l : List (Nat × Nat)) (i : Int) : Nat := if 0 ≤ i ∧ i < (l.length : Int) then vr l i.toNat else 0
theorem load_any26 (b g : Nat) (l : List (Nat × Nat)) (i : Int) (w : World) (h : CellsAt w b g l) :
    Calls Try.prog 36 #[.pointer (some ⟨b, 0, none⟩), .int .i64 i] w fun e w' => e = .returned (.tuple #[.int .u64 (ldW l i : Nat), .int .u64 (ldR l i : Nat), .bool (ldB l i)]) ∧ Below w.heap.size w w' := by
  by_cases hi : 0 ≤ i ∧ i < (l.length : Int)
  · have e1 : ldB l i = true := by unfold ldB; rw [decide_eq_true_iff]; exact hi
    have e2 : ldW l i = wd l i.toNat := by unfold ldW; rw [if_pos hi]
    have e3 : ldR l i = vr l i.toNat := by unfold ldR; rw [if_pos hi]
    rw [e1, e2, e3]
    have h2 := load_in b g l i.toNat w h (by omega)
    rw [show ((i.toNat : Nat) : Int) = i by omega] at h2
    refine h2.mono ?_
    rintro e w' ⟨he, hd⟩
    exact ⟨he, hd.below _⟩
  · have e1 : ldB l i = false := by unfold ldB; rw [decide_eq_false_iff_not]; exact hi
    have e2 : ldW l i = 0 := by unfold ldW; rw [if_neg hi]
    have e3 : ldR l i = 0 := by unfold ldR; rw [if_neg hi]
    rw [e1, e2, e3]
    refine (load_out _ l.length i w (cLen_any b g l w h) hi).mono ?_
    rintro e w' ⟨he, hd⟩
    subst hd
    exact ⟨he, Below.refl _ _⟩
section
variable {w w' : World} {e : Ending} {p o cb cg bg rg A T : Nat} {l : List (Nat × Nat)} {B : List Bl} {R : List OpV}
theorem NoR.done (h : NoR w w' e) (hm : MemAt w p o cb cg bg rg A T l B R) : Done w w' e p o cb cg bg rg A T l B R NoV := ⟨h.1, hm.below h.2, Keep.of_below h.2 _⟩
end
set_option maxHeartbeats 2000000 in
set_option maxRecDepth 100000 in
theorem do_load (p o cb cg bg rg A T : Nat) (l : List (Nat × Nat)) (B : List Bl) (R : List OpV) (a : AcV) (w : World) (h : MemAt w p o cb cg bg rg A T l B R) :
    Calls Try.prog 35 #[.pointer (some ⟨o, 0, none⟩), .agg #[.int .i64 1, .int .i64 a.at_, .int .u64 a.ver, .int .u64 a.word, .int .i64 a.b.k, .int .i64 a.b.lv, .string a.b.lo, .string a.b.hi, .bool a.b.la, .int .i64 a.b.nx, .slice a.b.p1 a.b.n1 a.b.c1, .slice a.b.p2 a.b.n2 a.b.c2, .slice a.b.p3 a.b.n3 a.b.c3, .int .i64 a.b.th, .int .i64 a.b.ac, .string a.b.ak, .int .u64 a.b.av, .slice a.b.p4 a.b.n4 a.b.c4, .slice a.b.p5 a.b.n5 a.b.c5, .slice a.b.p6 a.b.n6 a.b.c6, .slice a.b.p7 a.b.n7 a.b.c7, .int .i64 a.o.k, .string a.o.key, .string a.o.to, .int .u64 a.o.v, .int .i64 a.o.lim]] w fun e w' => Done w w' e p o cb cg bg rg A T l B R (.agg #[.bool (ldB l a.at_), .int .u64 (ldW l a.at_ : Nat), .int .u64 (ldR l a.at_ : Nat), .int .i64 0, .int .i64 0, .string ⟨#[]⟩, .string ⟨#[]⟩, .bool false, .int .i64 0, .slice none 0 0, .slice none 0 0, .slice none 0 0, .int .i64 0, .int .i64 0, .string ⟨#[]⟩, .int .u64 0, .slice none 0 0, .slice none 0 0, .slice none 0 0, .slice none 0 0, .int .i64 0, .string ⟨#[]⟩, .string ⟨#[]⟩, .int .u64 0, .int .i64 0]) := by
  have hlt := h.ltA
  obtain ⟨hx1, hx2, hx3⟩ := two_blk w 48 45 #[.int .i64 1, .int .i64 a.at_, .int .u64 a.ver, .int .u64 a.word, .int .i64 a.b.k, .int .i64 a.b.lv, .string a.b.lo, .string a.b.hi, .bool a.b.la, .int .i64 a.b.nx, .slice a.b.p1 a.b.n1 a.b.c1, .slice a.b.p2 a.b.n2 a.b.c2, .slice a.b.p3 a.b.n3 a.b.c3, .int .i64 a.b.th, .int .i64 a.b.ac, .string a.b.ak, .int .u64 a.b.av, .slice a.b.p4 a.b.n4 a.b.c4, .slice a.b.p5 a.b.n5 a.b.c5, .slice a.b.p6 a.b.n6 a.b.c6, .slice a.b.p7 a.b.n7 a.b.c7, .int .i64 a.o.k, .string a.o.key, .string a.o.to, .int .u64 a.o.v, .int .i64 a.o.lim] #[.bool false, .int .u64 0, .int .u64 0, .int .i64 0, .int .i64 0, .string ⟨#[]⟩, .string ⟨#[]⟩, .bool false, .int .i64 0, .slice none 0 0, .slice none 0 0, .slice none 0 0, .int .i64 0, .int .i64 0, .string ⟨#[]⟩, .int .u64 0, .slice none 0 0, .slice none 0 0, .slice none 0 0, .slice none 0 0, .int .i64 0, .string ⟨#[]⟩, .string ⟨#[]⟩, .int .u64 0, .int .i64 0]
  obtain ⟨W0, hW0⟩ : ∃ W, W = (w.alloc (.cells #[.int .i64 1, .int .i64 a.at_, .int .u64 a.ver, .int .u64 a.word, .int .i64 a.b.k, .int .i64 a.b.lv, .string a.b.lo, .string a.b.hi, .bool a.b.la, .int .i64 a.b.nx, .slice a.b.p1 a.b.n1 a.b.c1, .slice a.b.p2 a.b.n2 a.b.c2, .slice a.b.p3 a.b.n3 a.b.c3, .int .i64 a.b.th, .int .i64 a.b.ac, .string a.b.ak, .int .u64 a.b.av, .slice a.b.p4 a.b.n4 a.b.c4, .slice a.b.p5 a.b.n5 a.b.c5, .slice a.b.p6 a.b.n6 a.b.c6, .slice a.b.p7 a.b.n7 a.b.c7, .int .i64 a.o.k, .string a.o.key, .string a.o.to, .int .u64 a.o.v, .int .i64 a.o.lim] 48)).alloc (.cells #[.bool false, .int .u64 0, .int .u64 0, .int .i64 0, .int .i64 0, .string ⟨#[]⟩, .string ⟨#[]⟩, .bool false, .int .i64 0, .slice none 0 0, .slice none 0 0, .slice none 0 0, .int .i64 0, .int .i64 0, .string ⟨#[]⟩, .int .u64 0, .slice none 0 0, .slice none 0 0, .slice none 0 0, .slice none 0 0, .int .i64 0, .string ⟨#[]⟩, .string ⟨#[]⟩, .int .u64 0, .int .i64 0] 45) := ⟨_, rfl⟩
  rw [← hW0] at hx1 hx2 hx3
  have HW0 := Lib.hid hW0
  have HX1 := Lib.hid hx1
  have HX2 := Lib.hid hx2
  have HX3 := Lib.hid hx3
  have HM := Lib.hid (h.below hx3)
  have HLT := Lib.hid hlt
  have c0 := HM.out.m.c0
  obtain ⟨fz, d0, d1, d2, d3, d4, d5, d6, d7, d8, d9, d10, d11, d12, d13, d14, d15, d16, d17, d18, d19, d20, d21, d22, d23, d24, d25⟩ := cells26 hx1
  clear hW0 hx1 hx2 hx3 h hlt fz d4 d5 d6 d7 d8 d9 d10 d11 d12 d13 d14 d15 d16 d17 d18 d19 d20 d21 d22 d23 d24 d25
  go_enter Try.func35, Try.ntmps35
  go_upto_region 1 with fail
  rw [← HW0.out]
  clear HW0
  have c0' : ∀ q : Later W0, q.w.cell? ⟨o, 0, none⟩ = some (.pointer (some ⟨cb, 0, none⟩)) := fun q => (HM.out.below q.h).m.c0
  have d1' : ∀ q : Later W0, q.w.cell? ⟨w.heap.size, 1, none⟩ = some (.int .i64 a.at_) := fun q => (cells26 (HX1.out.below q.h)).2.2.1
  have HLD := Lib.hid (fun q : Later W0 => load_any26 cb cg l a.at_ q.w (HM.out.below q.h).c)
  obtain ⟨x, hx⟩ : ∃ x, x = ldW l a.at_ := ⟨_, rfl⟩
  obtain ⟨y, hy⟩ : ∃ y, y = ldR l a.at_ := ⟨_, rfl⟩
  obtain ⟨z, hz⟩ : ∃ z, z = ldB l a.at_ := ⟨_, rfl⟩
  rw [← hx, ← hy, ← hz] at HLD
  have HE := Lib.hid (And.intro hx (And.intro hy hz))
  clear hx hy hz
  go_upto_region 3 with fail
  refine wp_region_later (by kernel_rfl) (by kernel_rfl) ?_
  repeat (quiet_step ((go_at_call 36; with_reducible exact later_of (HLD.out _))))
  refine wpQuiet_nil ?_
  intro _ hw'
  obtain ⟨⟨wq, hwq⟩, hw'⟩ := hw'
  dsimp only at hw'
  rw [hw']
  have HXR := Lib.hid (HX2.out.below (w' := wq) hwq)
  have HMR := Lib.hid (HM.out.below (w' := wq) hwq)
  have HBR := Lib.hid (HX3.out.trans (hwq.mono HX3.out.size))
  clear c0 d0 d1 d2 d3 c0' d1' HLD hwq hw'
  go_wp2_with (refine wpList_store_blk rfl 45 _ _ rfl (w.heap.size + 1) 45 _ [.bool z, .int .u64 (x : Nat), .int .u64 (y : Nat), .int .i64 0, .int .i64 0, .string ⟨#[]⟩, .string ⟨#[]⟩, .bool false, .int .i64 0, .slice none 0 0, .slice none 0 0, .slice none 0 0, .int .i64 0, .int .i64 0, .string ⟨#[]⟩, .int .u64 0, .slice none 0 0, .slice none 0 0, .slice none 0 0, .slice none 0 0, .int .i64 0, .string ⟨#[]⟩, .string ⟨#[]⟩, .int .u64 0, .int .i64 0] rfl rfl HXR.out rfl szReply (by simp [Value.oneCell']) ?_; intro W hW1 hW2)
  refine bodyPost_ret (ret_reply rfl rfl hW1.out rfl) rfl ?_
  have hlt := HLT.out
  exact ⟨by rw [← HE.out.1, ← HE.out.2.1, ← HE.out.2.2], HMR.out.own hW2.out (by omega) (by omega) (by omega) (by omega) (by omega) (by omega), Keep.own3 (Keep.of_below HBR.out _) hW2.out (Nat.le_succ _)⟩
set_option maxHeartbeats 2000000 in
set_option maxRecDepth 100000 in
theorem do_store (p o cb cg bg rg A T : Nat) (l : List (Nat × Nat)) (B : List Bl) (R : List OpV) (a : AcV) (j : Nat) (hj : j < l.length) (hw : a.word < 18446744073709551616) (w : World) (h : MemAt w p o cb cg bg rg A T l B R) :
    Calls Try.prog 35 #[.pointer (some ⟨o, 0, none⟩), .agg #[.int .i64 2, .int .i64 (j : Nat), .int .u64 a.ver, .int .u64 a.word, .int .i64 a.b.k, .int .i64 a.b.lv, .string a.b.lo, .string a.b.hi, .bool a.b.la, .int .i64 a.b.nx, .slice a.b.p1 a.b.n1 a.b.c1, .slice a.b.p2 a.b.n2 a.b.c2, .slice a.b.p3 a.b.n3 a.b.c3, .int .i64 a.b.th, .int .i64 a.b.ac, .string a.b.ak, .int .u64 a.b.av, .slice a.b.p4 a.b.n4 a.b.c4, .slice a.b.p5 a.b.n5 a.b.c5, .slice a.b.p6 a.b.n6 a.b.c6, .slice a.b.p7 a.b.n7 a.b.c7, .int .i64 a.o.k, .string a.o.key, .string a.o.to, .int .u64 a.o.v, .int .i64 a.o.lim]] w fun e w' => Done w w' e p o cb cg bg rg A T (l.set j (a.word, ver1 (vr l j))) (usedB A B j) R OkV := by
  have hlt := h.ltA
  obtain ⟨hx1, hx2, hx3⟩ := two_blk w 48 45 #[.int .i64 2, .int .i64 (j : Nat), .int .u64 a.ver, .int .u64 a.word, .int .i64 a.b.k, .int .i64 a.b.lv, .string a.b.lo, .string a.b.hi, .bool a.b.la, .int .i64 a.b.nx, .slice a.b.p1 a.b.n1 a.b.c1, .slice a.b.p2 a.b.n2 a.b.c2, .slice a.b.p3 a.b.n3 a.b.c3, .int .i64 a.b.th, .int .i64 a.b.ac, .string a.b.ak, .int .u64 a.b.av, .slice a.b.p4 a.b.n4 a.b.c4, .slice a.b.p5 a.b.n5 a.b.c5, .slice a.b.p6 a.b.n6 a.b.c6, .slice a.b.p7 a.b.n7 a.b.c7, .int .i64 a.o.k, .string a.o.key, .string a.o.to, .int .u64 a.o.v, .int .i64 a.o.lim] #[.bool false, .int .u64 0, .int .u64 0, .int .i64 0, .int .i64 0, .string ⟨#[]⟩, .string ⟨#[]⟩, .bool false, .int .i64 0, .slice none 0 0, .slice none 0 0, .slice none 0 0, .int .i64 0, .int .i64 0, .string ⟨#[]⟩, .int .u64 0, .slice none 0 0, .slice none 0 0, .slice none 0 0, .slice none 0 0, .int .i64 0, .string ⟨#[]⟩, .string ⟨#[]⟩, .int .u64 0, .int .i64 0]
  obtain ⟨W0, hW0⟩ : ∃ W, W = (w.alloc (.cells #[.int .i64 2, .int .i64 (j : Nat), .int .u64 a.ver, .int .u64 a.word, .int .i64 a.b.k, .int .i64 a.b.lv, .string a.b.lo, .string a.b.hi, .bool a.b.la, .int .i64 a.b.nx, .slice a.b.p1 a.b.n1 a.b.c1, .slice a.b.p2 a.b.n2 a.b.c2, .slice a.b.p3 a.b.n3 a.b.c3, .int .i64 a.b.th, .int .i64 a.b.ac, .string a.b.ak, .int .u64 a.b.av, .slice a.b.p4 a.b.n4 a.b.c4, .slice a.b.p5 a.b.n5 a.b.c5, .slice a.b.p6 a.b.n6 a.b.c6, .slice a.b.p7 a.b.n7 a.b.c7, .int .i64 a.o.k, .string a.o.key, .string a.o.to, .int .u64 a.o.v, .int .i64 a.o.lim] 48)).alloc (.cells #[.bool false, .int .u64 0, .int .u64 0, .int .i64 0, .int .i64 0, .string ⟨#[]⟩, .string ⟨#[]⟩, .bool false, .int .i64 0, .slice none 0 0, .slice none 0 0, .slice none 0 0, .int .i64 0, .int .i64 0, .string ⟨#[]⟩, .int .u64 0, .slice none 0 0, .slice none 0 0, .slice none 0 0, .slice none 0 0, .int .i64 0, .string ⟨#[]⟩, .string ⟨#[]⟩, .int .u64 0, .int .i64 0] 45) := ⟨_, rfl⟩
  rw [← hW0] at hx1 hx2 hx3
  have HW0 := Lib.hid hW0
  have HX1 := Lib.hid hx1
  have HX2 := Lib.hid hx2
  have HX3 := Lib.hid hx3
  have HM := Lib.hid (h.below hx3)
  have HLT := Lib.hid hlt
  have c0 := HM.out.m.c0
  obtain ⟨fz, d0, d1, d2, d3, d4, d5, d6, d7, d8, d9, d10, d11, d12, d13, d14, d15, d16, d17, d18, d19, d20, d21, d22, d23, d24, d25⟩ := cells26 hx1
  clear hW0 hx1 hx2 hx3 h hlt fz d4 d5 d6 d7 d8 d9 d10 d11 d12 d13 d14 d15 d16 d17 d18 d19 d20 d21 d22 d23 d24 d25
  go_enter Try.func35, Try.ntmps35
  go_upto_region 1 with fail
  rw [← HW0.out]
  clear HW0
  have HST := Lib.hid (fun W (hb : Below W0.heap.size W0 W) => store_in cb cg l j a.word hw W (HM.out.below hb).c hj)
  have HS : Hid (∀ V V2, Below W0.heap.size W0 V → Keep (fun k => k = cg ∨ k = bg ∨ k = rg) V V2 → (V2.cell? ⟨w.heap.size, 1, none⟩ = some (.int .i64 (j : Nat)) ∧ V2.cell? ⟨w.heap.size, 3, none⟩ = some (.int .u64 (a.word : Nat)) ∧ V2.cell? ⟨o, 0, none⟩ = some (.pointer (some ⟨cb, 0, none⟩)))) := Lib.hid (fun V V2 hb hk => by
    have hlt := HLT.out
    obtain ⟨_, e0, e1, e2, e3, _⟩ := cells26 ((HX1.out.below hb).keep hk (by omega))
    have e4 : V2.cell? ⟨o, 0, none⟩ = some (.pointer (some ⟨cb, 0, none⟩)) := ((((HM.out.below hb).m.blk).keep hk (by
      rintro (e | e | e)
      · exact HM.out.m.blk.ne_ HM.out.c.row (by decide) e
      · exact HM.out.m.blk.ne_ HM.out.b (by decide) e
      · exact HM.out.m.blk.ne_ HM.out.r (by decide) e)).cell 0).trans rfl
    exact ⟨e1, e3, e4⟩)
  have HS0 := Lib.hid (HS.out W0.drew W0.drew (Below.refl _ _).drew (Keep.refl _ _))
  clear c0 d1 d2 d3
  go_upto_region 6 with fail
  refine wp_region_till (fun V => V.cell? ⟨w.heap.size, 1, none⟩ = some (.int .i64 (j : Nat)) ∧ V.cell? ⟨w.heap.size, 3, none⟩ = some (.int .u64 (a.word : Nat)) ∧ V.cell? ⟨o, 0, none⟩ = some (.pointer (some ⟨cb, 0, none⟩))) 13 (by rfl) ?_
  refine wpAnyS_take 0 (some 31) [13] rfl rfl (by kernel_rfl) (by kernel_rfl) (by kernel_rfl) (by kernel_rfl) (by kernel_rfl) (by kernel_rfl) (by kernel_rfl) (fun _ _ _ h => h) (by rfl) (by intro V hV9; obtain ⟨y1, y2, y3⟩ := hV9; go_simp; (first | done | (with_reducible rfl))) HS0.out ?_
  simp only [Act.put, List.setIfInBounds_toArray, List.set_cons_zero, List.set_cons_succ]
  refine wpAnyS_take 1 (some 32) [13] rfl rfl (by kernel_rfl) (by kernel_rfl) (by kernel_rfl) (by kernel_rfl) (by kernel_rfl) (by kernel_rfl) (by kernel_rfl) (fun _ _ _ h => h) (by rfl) (by intro V hV9; obtain ⟨y1, y2, y3⟩ := hV9; go_simp; (first | done | (with_reducible rfl))) HS0.out ?_
  simp only [Act.put, List.setIfInBounds_toArray, List.set_cons_zero, List.set_cons_succ]
  refine wpAnyS_take 2 (some 33) [13] rfl rfl (by kernel_rfl) (by kernel_rfl) (by kernel_rfl) (by kernel_rfl) (by kernel_rfl) (by kernel_rfl) (by kernel_rfl) (fun _ _ _ h => h) (by rfl) (by intro V hV9; obtain ⟨y1, y2, y3⟩ := hV9; go_simp; (first | done | (with_reducible rfl))) HS0.out ?_
  simp only [Act.put, List.setIfInBounds_toArray, List.set_cons_zero, List.set_cons_succ]
  refine wpAnyS_take 3 (some 34) [13] rfl rfl (by kernel_rfl) (by kernel_rfl) (by kernel_rfl) (by kernel_rfl) (by kernel_rfl) (by kernel_rfl) (by kernel_rfl) (fun _ _ _ h => h) (by rfl) (by intro V hV9; obtain ⟨y1, y2, y3⟩ := hV9; go_simp; (first | done | (with_reducible rfl))) HS0.out ?_
  simp only [Act.put, List.setIfInBounds_toArray, List.set_cons_zero, List.set_cons_succ]
  refine wpAnyS_take 4 (some 35) [13] rfl rfl (by kernel_rfl) (by kernel_rfl) (by kernel_rfl) (by kernel_rfl) (by kernel_rfl) (by kernel_rfl) (by kernel_rfl) (fun _ _ _ h => h) (by rfl) (by intro V hV9; obtain ⟨y1, y2, y3⟩ := hV9; go_simp; (first | done | (with_reducible rfl))) HS0.out ?_
  simp only [Act.put, List.setIfInBounds_toArray, List.set_cons_zero, List.set_cons_succ]
  refine wpAnyS_take 5 (some 36) [13] rfl rfl (by kernel_rfl) (by kernel_rfl) (by kernel_rfl) (by kernel_rfl) (by kernel_rfl) (by kernel_rfl) (by kernel_rfl) (fun _ _ _ h => h) (by rfl) (by intro V hV9; obtain ⟨y1, y2, y3⟩ := hV9; go_simp; (first | done | (with_reducible rfl))) HS0.out ?_
  simp only [Act.put, List.setIfInBounds_toArray, List.set_cons_zero, List.set_cons_succ]
  refine wpAnyS_take 6 (some 37) [13] rfl rfl (by kernel_rfl) (by kernel_rfl) (by kernel_rfl) (by kernel_rfl) (by kernel_rfl) (by kernel_rfl) (by kernel_rfl) (fun _ _ _ h => h) (by rfl) (by intro V hV9; obtain ⟨y1, y2, y3⟩ := hV9; go_simp; (first | done | (with_reducible rfl))) HS0.out ?_
  simp only [Act.put, List.setIfInBounds_toArray, List.set_cons_zero, List.set_cons_succ]
  refine wpAnyS_take 7 (some 38) [13] rfl rfl (by kernel_rfl) (by kernel_rfl) (by kernel_rfl) (by kernel_rfl) (by kernel_rfl) (by kernel_rfl) (by kernel_rfl) (fun _ _ _ h => h) (by rfl) (by intro V hV9; obtain ⟨y1, y2, y3⟩ := hV9; go_simp; (first | done | (with_reducible rfl))) HS0.out ?_
  simp only [Act.put, List.setIfInBounds_toArray, List.set_cons_zero, List.set_cons_succ]
  refine wpAnyS_take 8 (some 39) [13] rfl rfl (by kernel_rfl) (by kernel_rfl) (by kernel_rfl) (by kernel_rfl) (by kernel_rfl) (by kernel_rfl) (by kernel_rfl) (fun _ _ _ h => h) (by rfl) (by intro V hV9; obtain ⟨y1, y2, y3⟩ := hV9; go_simp; (first | done | (with_reducible rfl))) HS0.out ?_
  simp only [Act.put, List.setIfInBounds_toArray, List.set_cons_zero, List.set_cons_succ]
  refine wpAnyS_take 9 (some 40) [13] rfl rfl (by kernel_rfl) (by kernel_rfl) (by kernel_rfl) (by kernel_rfl) (by kernel_rfl) (by kernel_rfl) (by kernel_rfl) (fun _ _ _ h => h) (by rfl) (by intro V hV9; obtain ⟨y1, y2, y3⟩ := hV9; go_simp; (first | done | (with_reducible rfl))) HS0.out ?_
  simp only [Act.put, List.setIfInBounds_toArray, List.set_cons_zero, List.set_cons_succ]
  refine wpAnyS_take 10 (some 41) [13] rfl rfl (by kernel_rfl) (by kernel_rfl) (by kernel_rfl) (by kernel_rfl) (by kernel_rfl) (by kernel_rfl) (by kernel_rfl) (fun _ _ _ h => h) (by rfl) (by intro V hV9; obtain ⟨y1, y2, y3⟩ := hV9; go_simp; (first | done | (with_reducible rfl))) HS0.out ?_
  simp only [Act.put, List.setIfInBounds_toArray, List.set_cons_zero, List.set_cons_succ]
  refine wpAnyS_ready [11] (by kernel_rfl) (by simp) ?_
  refine AllReadyS.cons rfl (fun K9 hK => ?_) AllReadyS.nil
  go_simp
  go_at_call 57
  refine (HST.out _ (Below.refl _ _).drew).mono ?_
  rintro e w2 ⟨rfl, hw2⟩
  have hm2 := (HM.out.below (Below.refl _ _).drew).setC hw2 (by rw [List.length_set])
  have HKW := Lib.hid (Keep.under (Below.refl _ _).drew (hw2.keep.mono (S2 := fun k => k = cg ∨ k = bg ∨ k = rg) (fun k e => Or.inl e)))
  have HS2 := Lib.hid (HS.out W0.drew w2 (Below.refl _ _).drew (hw2.keep.mono (fun k e => Or.inl e)))
  have HXW := Lib.hid ((HX2.out.below (Below.refl _ _).drew).keep hw2.keep (by have := HLT.out; omega))
  have HWY := Lib.hid (written_yes p o cb cg bg rg A T j _ B R (by rw [List.length_set]; exact hj) w2 hm2)
  clear hw2 hm2
  refine hK.out _ _ (fun _ => HS2.out) ?_
  clear hK K9
  refine wpAnyS_ready [12] (by kernel_rfl) (by simp) ?_
  refine AllReadyS.cons rfl (fun K9 hK => ?_) AllReadyS.nil
  go_simp
  go_at_call 56
  refine HWY.out.mono ?_
  rintro e w3 ⟨rfl, hm3, hk3⟩
  have HM3 := Lib.hid hm3
  have HK3 := Lib.hid (HKW.out.trans hk3 (fun _ _ e => e))
  have HXR := Lib.hid (HXW.out.keep hk3 (by have := HLT.out; omega))
  have HS3 := Lib.hid (HS.out W0 w3 (Below.refl _ _) HK3.out)
  clear hm3 hk3 HWY
  refine hK.out _ _ (fun _ => HS3.out) ?_
  clear hK K9
  refine wpAnyS_ready [13] (by kernel_rfl) (by simp) ?_
  refine AllReadyS.cons rfl (fun K9 hK => ?_) AllReadyS.nil
  refine step_store_blk rfl 45 (.tmp 4) (.tmp 43) rfl (w.heap.size + 1) 45 _ [.bool true, .int .u64 0, .int .u64 0, .int .i64 0, .int .i64 0, .string ⟨#[]⟩, .string ⟨#[]⟩, .bool false, .int .i64 0, .slice none 0 0, .slice none 0 0, .slice none 0 0, .int .i64 0, .int .i64 0, .string ⟨#[]⟩, .int .u64 0, .slice none 0 0, .slice none 0 0, .slice none 0 0, .slice none 0 0, .int .i64 0, .string ⟨#[]⟩, .string ⟨#[]⟩, .int .u64 0, .int .i64 0] rfl rfl HXR.out rfl szReply (by simp [Value.oneCell']) ?_
  intro W hW1 hW2
  refine hK.out _ _ (fun h => absurd h (by decide)) ?_
  clear hK K9
  refine wpAnyS_done (by kernel_rfl) ?_ _
  go_wp2
  refine bodyPost_ret (ret_reply rfl rfl hW1.out rfl) rfl ?_
  have hlt := HLT.out
  exact ⟨rfl, HM3.out.own hW2.out (by omega) (by omega) (by omega) (by omega) (by omega) (by omega), Keep.own3 (Keep.under HX3.out HK3.out) hW2.out (Nat.le_succ _)⟩
set_option maxHeartbeats 2000000 in
set_option maxRecDepth 100000 in
theorem do_store_no (p o cb cg bg rg A T : Nat) (l : List (Nat × Nat)) (B : List Bl) (R : List OpV) (a : AcV) (hj : ¬ (0 ≤ a.at_ ∧ a.at_ < (l.length : Int))) (w : World) (h : MemAt w p o cb cg bg rg A T l B R) :
    Calls Try.prog 35 #[.pointer (some ⟨o, 0, none⟩), .agg #[.int .i64 2, .int .i64 a.at_, .int .u64 a.ver, .int .u64 a.word, .int .i64 a.b.k, .int .i64 a.b.lv, .string a.b.lo, .string a.b.hi, .bool a.b.la, .int .i64 a.b.nx, .slice a.b.p1 a.b.n1 a.b.c1, .slice a.b.p2 a.b.n2 a.b.c2, .slice a.b.p3 a.b.n3 a.b.c3, .int .i64 a.b.th, .int .i64 a.b.ac, .string a.b.ak, .int .u64 a.b.av, .slice a.b.p4 a.b.n4 a.b.c4, .slice a.b.p5 a.b.n5 a.b.c5, .slice a.b.p6 a.b.n6 a.b.c6, .slice a.b.p7 a.b.n7 a.b.c7, .int .i64 a.o.k, .string a.o.key, .string a.o.to, .int .u64 a.o.v, .int .i64 a.o.lim]] w fun e w' => Done w w' e p o cb cg bg rg A T l B R NoV := by
  have hlt := h.ltA
  obtain ⟨hx1, hx2, hx3⟩ := two_blk w 48 45 #[.int .i64 2, .int .i64 a.at_, .int .u64 a.ver, .int .u64 a.word, .int .i64 a.b.k, .int .i64 a.b.lv, .string a.b.lo, .string a.b.hi, .bool a.b.la, .int .i64 a.b.nx, .slice a.b.p1 a.b.n1 a.b.c1, .slice a.b.p2 a.b.n2 a.b.c2, .slice a.b.p3 a.b.n3 a.b.c3, .int .i64 a.b.th, .int .i64 a.b.ac, .string a.b.ak, .int .u64 a.b.av, .slice a.b.p4 a.b.n4 a.b.c4, .slice a.b.p5 a.b.n5 a.b.c5, .slice a.b.p6 a.b.n6 a.b.c6, .slice a.b.p7 a.b.n7 a.b.c7, .int .i64 a.o.k, .string a.o.key, .string a.o.to, .int .u64 a.o.v, .int .i64 a.o.lim] #[.bool false, .int .u64 0, .int .u64 0, .int .i64 0, .int .i64 0, .string ⟨#[]⟩, .string ⟨#[]⟩, .bool false, .int .i64 0, .slice none 0 0, .slice none 0 0, .slice none 0 0, .int .i64 0, .int .i64 0, .string ⟨#[]⟩, .int .u64 0, .slice none 0 0, .slice none 0 0, .slice none 0 0, .slice none 0 0, .int .i64 0, .string ⟨#[]⟩, .string ⟨#[]⟩, .int .u64 0, .int .i64 0]
  obtain ⟨W0, hW0⟩ : ∃ W, W = (w.alloc (.cells #[.int .i64 2, .int .i64 a.at_, .int .u64 a.ver, .int .u64 a.word, .int .i64 a.b.k, .int .i64 a.b.lv, .string a.b.lo, .string a.b.hi, .bool a.b.la, .int .i64 a.b.nx, .slice a.b.p1 a.b.n1 a.b.c1, .slice a.b.p2 a.b.n2 a.b.c2, .slice a.b.p3 a.b.n3 a.b.c3, .int .i64 a.b.th, .int .i64 a.b.ac, .string a.b.ak, .int .u64 a.b.av, .slice a.b.p4 a.b.n4 a.b.c4, .slice a.b.p5 a.b.n5 a.b.c5, .slice a.b.p6 a.b.n6 a.b.c6, .slice a.b.p7 a.b.n7 a.b.c7, .int .i64 a.o.k, .string a.o.key, .string a.o.to, .int .u64 a.o.v, .int .i64 a.o.lim] 48)).alloc (.cells #[.bool false, .int .u64 0, .int .u64 0, .int .i64 0, .int .i64 0, .string ⟨#[]⟩, .string ⟨#[]⟩, .bool false, .int .i64 0, .slice none 0 0, .slice none 0 0, .slice none 0 0, .int .i64 0, .int .i64 0, .string ⟨#[]⟩, .int .u64 0, .slice none 0 0, .slice none 0 0, .slice none 0 0, .slice none 0 0, .int .i64 0, .string ⟨#[]⟩, .string ⟨#[]⟩, .int .u64 0, .int .i64 0] 45) := ⟨_, rfl⟩
  rw [← hW0] at hx1 hx2 hx3
  have HW0 := Lib.hid hW0
  have HX1 := Lib.hid hx1
  have HX2 := Lib.hid hx2
  have HX3 := Lib.hid hx3
  have HM := Lib.hid (h.below hx3)
  have HLT := Lib.hid hlt
  have c0 := HM.out.m.c0
  obtain ⟨fz, d0, d1, d2, d3, d4, d5, d6, d7, d8, d9, d10, d11, d12, d13, d14, d15, d16, d17, d18, d19, d20, d21, d22, d23, d24, d25⟩ := cells26 hx1
  clear hW0 hx1 hx2 hx3 h hlt fz d4 d5 d6 d7 d8 d9 d10 d11 d12 d13 d14 d15 d16 d17 d18 d19 d20 d21 d22 d23 d24 d25
  go_enter Try.func35, Try.ntmps35
  go_upto_region 1 with fail
  rw [← HW0.out]
  clear HW0
  have HST := Lib.hid (fun W (hb : Below W0.heap.size W0 W) => store_out (.pointer (some ⟨cb, 0, none⟩)) l.length a.at_ a.word W (cLen_any cb cg l W (HM.out.below hb).c) hj)
  have HS : Hid (∀ V V2, Below W0.heap.size W0 V → Keep (fun k => k = cg ∨ k = bg ∨ k = rg) V V2 → (V2.cell? ⟨w.heap.size, 1, none⟩ = some (.int .i64 a.at_) ∧ V2.cell? ⟨w.heap.size, 3, none⟩ = some (.int .u64 (a.word : Nat)) ∧ V2.cell? ⟨o, 0, none⟩ = some (.pointer (some ⟨cb, 0, none⟩)))) := Lib.hid (fun V V2 hb hk => by
    have hlt := HLT.out
    obtain ⟨_, e0, e1, e2, e3, _⟩ := cells26 ((HX1.out.below hb).keep hk (by omega))
    have e4 : V2.cell? ⟨o, 0, none⟩ = some (.pointer (some ⟨cb, 0, none⟩)) := ((((HM.out.below hb).m.blk).keep hk (by
      rintro (e | e | e)
      · exact HM.out.m.blk.ne_ HM.out.c.row (by decide) e
      · exact HM.out.m.blk.ne_ HM.out.b (by decide) e
      · exact HM.out.m.blk.ne_ HM.out.r (by decide) e)).cell 0).trans rfl
    exact ⟨e1, e3, e4⟩)
  have HS0 := Lib.hid (HS.out W0.drew W0.drew (Below.refl _ _).drew (Keep.refl _ _))
  clear c0 d1 d2 d3
  go_upto_region 6 with fail
  refine wp_region_till (fun V => V.cell? ⟨w.heap.size, 1, none⟩ = some (.int .i64 a.at_) ∧ V.cell? ⟨w.heap.size, 3, none⟩ = some (.int .u64 (a.word : Nat)) ∧ V.cell? ⟨o, 0, none⟩ = some (.pointer (some ⟨cb, 0, none⟩))) 13 (by rfl) ?_
  refine wpAnyS_take 0 (some 31) [13] rfl rfl (by kernel_rfl) (by kernel_rfl) (by kernel_rfl) (by kernel_rfl) (by kernel_rfl) (by kernel_rfl) (by kernel_rfl) (fun _ _ _ h => h) (by rfl) (by intro V hV9; obtain ⟨y1, y2, y3⟩ := hV9; go_simp; (first | done | (with_reducible rfl))) HS0.out ?_
  simp only [Act.put, List.setIfInBounds_toArray, List.set_cons_zero, List.set_cons_succ]
  refine wpAnyS_take 1 (some 32) [13] rfl rfl (by kernel_rfl) (by kernel_rfl) (by kernel_rfl) (by kernel_rfl) (by kernel_rfl) (by kernel_rfl) (by kernel_rfl) (fun _ _ _ h => h) (by rfl) (by intro V hV9; obtain ⟨y1, y2, y3⟩ := hV9; go_simp; (first | done | (with_reducible rfl))) HS0.out ?_
  simp only [Act.put, List.setIfInBounds_toArray, List.set_cons_zero, List.set_cons_succ]
  refine wpAnyS_take 2 (some 33) [13] rfl rfl (by kernel_rfl) (by kernel_rfl) (by kernel_rfl) (by kernel_rfl) (by kernel_rfl) (by kernel_rfl) (by kernel_rfl) (fun _ _ _ h => h) (by rfl) (by intro V hV9; obtain ⟨y1, y2, y3⟩ := hV9; go_simp; (first | done | (with_reducible rfl))) HS0.out ?_
  simp only [Act.put, List.setIfInBounds_toArray, List.set_cons_zero, List.set_cons_succ]
  refine wpAnyS_take 3 (some 34) [13] rfl rfl (by kernel_rfl) (by kernel_rfl) (by kernel_rfl) (by kernel_rfl) (by kernel_rfl) (by kernel_rfl) (by kernel_rfl) (fun _ _ _ h => h) (by rfl) (by intro V hV9; obtain ⟨y1, y2, y3⟩ := hV9; go_simp; (first | done | (with_reducible rfl))) HS0.out ?_
  simp only [Act.put, List.setIfInBounds_toArray, List.set_cons_zero, List.set_cons_succ]
  refine wpAnyS_take 4 (some 35) [13] rfl rfl (by kernel_rfl) (by kernel_rfl) (by kernel_rfl) (by kernel_rfl) (by kernel_rfl) (by kernel_rfl) (by kernel_rfl) (fun _ _ _ h => h) (by rfl) (by intro V hV9; obtain ⟨y1, y2, y3⟩ := hV9; go_simp; (first | done | (with_reducible rfl))) HS0.out ?_
  simp only [Act.put, List.setIfInBounds_toArray, List.set_cons_zero, List.set_cons_succ]
  refine wpAnyS_take 5 (some 36) [13] rfl rfl (by kernel_rfl) (by kernel_rfl) (by kernel_rfl) (by kernel_rfl) (by kernel_rfl) (by kernel_rfl) (by kernel_rfl) (fun _ _ _ h => h) (by rfl) (by intro V hV9; obtain ⟨y1, y2, y3⟩ := hV9; go_simp; (first | done | (with_reducible rfl))) HS0.out ?_
  simp only [Act.put, List.setIfInBounds_toArray, List.set_cons_zero, List.set_cons_succ]
  refine wpAnyS_take 6 (some 37) [13] rfl rfl (by kernel_rfl) (by kernel_rfl) (by kernel_rfl) (by kernel_rfl) (by kernel_rfl) (by kernel_rfl) (by kernel_rfl) (fun _ _ _ h => h) (by rfl) (by intro V hV9; obtain ⟨y1, y2, y3⟩ := hV9; go_simp; (first | done | (with_reducible rfl))) HS0.out ?_
  simp only [Act.put, List.setIfInBounds_toArray, List.set_cons_zero, List.set_cons_succ]
  refine wpAnyS_take 7 (some 38) [13] rfl rfl (by kernel_rfl) (by kernel_rfl) (by kernel_rfl) (by kernel_rfl) (by kernel_rfl) (by kernel_rfl) (by kernel_rfl) (fun _ _ _ h => h) (by rfl) (by intro V hV9; obtain ⟨y1, y2, y3⟩ := hV9; go_simp; (first | done | (with_reducible rfl))) HS0.out ?_
  simp only [Act.put, List.setIfInBounds_toArray, List.set_cons_zero, List.set_cons_succ]
  refine wpAnyS_take 8 (some 39) [13] rfl rfl (by kernel_rfl) (by kernel_rfl) (by kernel_rfl) (by kernel_rfl) (by kernel_rfl) (by kernel_rfl) (by kernel_rfl) (fun _ _ _ h => h) (by rfl) (by intro V hV9; obtain ⟨y1, y2, y3⟩ := hV9; go_simp; (first | done | (with_reducible rfl))) HS0.out ?_
  simp only [Act.put, List.setIfInBounds_toArray, List.set_cons_zero, List.set_cons_succ]
  refine wpAnyS_take 9 (some 40) [13] rfl rfl (by kernel_rfl) (by kernel_rfl) (by kernel_rfl) (by kernel_rfl) (by kernel_rfl) (by kernel_rfl) (by kernel_rfl) (fun _ _ _ h => h) (by rfl) (by intro V hV9; obtain ⟨y1, y2, y3⟩ := hV9; go_simp; (first | done | (with_reducible rfl))) HS0.out ?_
  simp only [Act.put, List.setIfInBounds_toArray, List.set_cons_zero, List.set_cons_succ]
  refine wpAnyS_take 10 (some 41) [13] rfl rfl (by kernel_rfl) (by kernel_rfl) (by kernel_rfl) (by kernel_rfl) (by kernel_rfl) (by kernel_rfl) (by kernel_rfl) (fun _ _ _ h => h) (by rfl) (by intro V hV9; obtain ⟨y1, y2, y3⟩ := hV9; go_simp; (first | done | (with_reducible rfl))) HS0.out ?_
  simp only [Act.put, List.setIfInBounds_toArray, List.set_cons_zero, List.set_cons_succ]
  refine wpAnyS_ready [11] (by kernel_rfl) (by simp) ?_
  refine AllReadyS.cons rfl (fun K9 hK => ?_) AllReadyS.nil
  go_simp
  go_at_call 57
  refine (HST.out _ (Below.refl _ _).drew).mono ?_
  rintro e w2 ⟨rfl, hw2⟩
  rw [← hw2]
  clear hw2
  refine hK.out _ _ (fun _ => HS0.out) ?_
  clear hK K9
  refine wpAnyS_ready [12] (by kernel_rfl) (by simp) ?_
  refine AllReadyS.cons rfl (fun K9 hK => ?_) AllReadyS.nil
  go_simp
  go_at_call 56
  refine (written_no o A T a.at_ _ _ _ _ (HM.out.below (Below.refl _ _).drew).m).mono ?_
  rintro e w3 ⟨rfl, hb3⟩
  have hb4 : Below W0.heap.size W0 w3 := (Below.refl _ _).drew.trans hb3
  have HXR := Lib.hid (HX2.out.below (w' := w3) hb4)
  have HM3 := Lib.hid (HM.out.below (w' := w3) hb4)
  have HBR := Lib.hid (HX3.out.trans (hb4.mono HX3.out.size))
  have HS3 := Lib.hid (HS.out w3 w3 hb4 (Keep.refl _ _))
  clear hb3 hb4
  refine hK.out _ _ (fun _ => HS3.out) ?_
  clear hK K9
  refine wpAnyS_ready [13] (by kernel_rfl) (by simp) ?_
  refine AllReadyS.cons rfl (fun K9 hK => ?_) AllReadyS.nil
  refine step_store_blk rfl 45 (.tmp 4) (.tmp 43) rfl (w.heap.size + 1) 45 _ [.bool false, .int .u64 0, .int .u64 0, .int .i64 0, .int .i64 0, .string ⟨#[]⟩, .string ⟨#[]⟩, .bool false, .int .i64 0, .slice none 0 0, .slice none 0 0, .slice none 0 0, .int .i64 0, .int .i64 0, .string ⟨#[]⟩, .int .u64 0, .slice none 0 0, .slice none 0 0, .slice none 0 0, .slice none 0 0, .int .i64 0, .string ⟨#[]⟩, .string ⟨#[]⟩, .int .u64 0, .int .i64 0] rfl rfl HXR.out rfl szReply (by simp [Value.oneCell']) ?_
  intro W hW1 hW2
  refine hK.out _ _ (fun h => absurd h (by decide)) ?_
  clear hK K9
  refine wpAnyS_done (by kernel_rfl) ?_ _
  go_wp2
  refine bodyPost_ret (ret_reply rfl rfl hW1.out rfl) rfl ?_
  have hlt := HLT.out
  exact ⟨rfl, HM3.out.own hW2.out (by omega) (by omega) (by omega) (by omega) (by omega) (by omega), Keep.own3 (Keep.of_below HBR.out _) hW2.out (Nat.le_succ _)⟩
set_option maxHeartbeats 2000000 in
set_option maxRecDepth 100000 in
theorem do_cas (p o cb cg bg rg A T : Nat) (l : List (Nat × Nat)) (B : List Bl) (R : List OpV) (a : AcV) (j : Nat) (hj : j < l.length) (hw : a.word < 18446744073709551616) (w : World) (h : MemAt w p o cb cg bg rg A T l B R) :
    Calls Try.prog 35 #[.pointer (some ⟨o, 0, none⟩), .agg #[.int .i64 3, .int .i64 (j : Nat), .int .u64 (vr l j : Nat), .int .u64 a.word, .int .i64 a.b.k, .int .i64 a.b.lv, .string a.b.lo, .string a.b.hi, .bool a.b.la, .int .i64 a.b.nx, .slice a.b.p1 a.b.n1 a.b.c1, .slice a.b.p2 a.b.n2 a.b.c2, .slice a.b.p3 a.b.n3 a.b.c3, .int .i64 a.b.th, .int .i64 a.b.ac, .string a.b.ak, .int .u64 a.b.av, .slice a.b.p4 a.b.n4 a.b.c4, .slice a.b.p5 a.b.n5 a.b.c5, .slice a.b.p6 a.b.n6 a.b.c6, .slice a.b.p7 a.b.n7 a.b.c7, .int .i64 a.o.k, .string a.o.key, .string a.o.to, .int .u64 a.o.v, .int .i64 a.o.lim]] w fun e w' => Done w w' e p o cb cg bg rg A T (l.set j (a.word, ver1 (vr l j))) (usedB A B j) R OkV := by
  have hlt := h.ltA
  obtain ⟨hx1, hx2, hx3⟩ := two_blk w 48 45 #[.int .i64 3, .int .i64 (j : Nat), .int .u64 (vr l j : Nat), .int .u64 a.word, .int .i64 a.b.k, .int .i64 a.b.lv, .string a.b.lo, .string a.b.hi, .bool a.b.la, .int .i64 a.b.nx, .slice a.b.p1 a.b.n1 a.b.c1, .slice a.b.p2 a.b.n2 a.b.c2, .slice a.b.p3 a.b.n3 a.b.c3, .int .i64 a.b.th, .int .i64 a.b.ac, .string a.b.ak, .int .u64 a.b.av, .slice a.b.p4 a.b.n4 a.b.c4, .slice a.b.p5 a.b.n5 a.b.c5, .slice a.b.p6 a.b.n6 a.b.c6, .slice a.b.p7 a.b.n7 a.b.c7, .int .i64 a.o.k, .string a.o.key, .string a.o.to, .int .u64 a.o.v, .int .i64 a.o.lim] #[.bool false, .int .u64 0, .int .u64 0, .int .i64 0, .int .i64 0, .string ⟨#[]⟩, .string ⟨#[]⟩, .bool false, .int .i64 0, .slice none 0 0, .slice none 0 0, .slice none 0 0, .int .i64 0, .int .i64 0, .string ⟨#[]⟩, .int .u64 0, .slice none 0 0, .slice none 0 0, .slice none 0 0, .slice none 0 0, .int .i64 0, .string ⟨#[]⟩, .string ⟨#[]⟩, .int .u64 0, .int .i64 0]
  obtain ⟨W0, hW0⟩ : ∃ W, W = (w.alloc (.cells #[.int .i64 3, .int .i64 (j : Nat), .int .u64 (vr l j : Nat), .int .u64 a.word, .int .i64 a.b.k, .int .i64 a.b.lv, .string a.b.lo, .string a.b.hi, .bool a.b.la, .int .i64 a.b.nx, .slice a.b.p1 a.b.n1 a.b.c1, .slice a.b.p2 a.b.n2 a.b.c2, .slice a.b.p3 a.b.n3 a.b.c3, .int .i64 a.b.th, .int .i64 a.b.ac, .string a.b.ak, .int .u64 a.b.av, .slice a.b.p4 a.b.n4 a.b.c4, .slice a.b.p5 a.b.n5 a.b.c5, .slice a.b.p6 a.b.n6 a.b.c6, .slice a.b.p7 a.b.n7 a.b.c7, .int .i64 a.o.k, .string a.o.key, .string a.o.to, .int .u64 a.o.v, .int .i64 a.o.lim] 48)).alloc (.cells #[.bool false, .int .u64 0, .int .u64 0, .int .i64 0, .int .i64 0, .string ⟨#[]⟩, .string ⟨#[]⟩, .bool false, .int .i64 0, .slice none 0 0, .slice none 0 0, .slice none 0 0, .int .i64 0, .int .i64 0, .string ⟨#[]⟩, .int .u64 0, .slice none 0 0, .slice none 0 0, .slice none 0 0, .slice none 0 0, .int .i64 0, .string ⟨#[]⟩, .string ⟨#[]⟩, .int .u64 0, .int .i64 0] 45) := ⟨_, rfl⟩
  rw [← hW0] at hx1 hx2 hx3
  have HW0 := Lib.hid hW0
  have HX1 := Lib.hid hx1
  have HX2 := Lib.hid hx2
  have HX3 := Lib.hid hx3
  have HM := Lib.hid (h.below hx3)
  have HLT := Lib.hid hlt
  have c0 := HM.out.m.c0
  obtain ⟨fz, d0, d1, d2, d3, d4, d5, d6, d7, d8, d9, d10, d11, d12, d13, d14, d15, d16, d17, d18, d19, d20, d21, d22, d23, d24, d25⟩ := cells26 hx1
  clear hW0 hx1 hx2 hx3 h hlt fz d4 d5 d6 d7 d8 d9 d10 d11 d12 d13 d14 d15 d16 d17 d18 d19 d20 d21 d22 d23 d24 d25
  go_enter Try.func35, Try.ntmps35
  go_upto_region 1 with fail
  rw [← HW0.out]
  clear HW0
  have HST := Lib.hid (fun W (hb : Below W0.heap.size W0 W) => cas_yes cb cg l j a.word hw W (HM.out.below hb).c hj)
  have HS : Hid (∀ V V2, Below W0.heap.size W0 V → Keep (fun k => k = cg ∨ k = bg ∨ k = rg) V V2 → (V2.cell? ⟨w.heap.size, 1, none⟩ = some (.int .i64 (j : Nat)) ∧ V2.cell? ⟨w.heap.size, 2, none⟩ = some (.int .u64 (vr l j : Nat)) ∧ V2.cell? ⟨w.heap.size, 3, none⟩ = some (.int .u64 (a.word : Nat)) ∧ V2.cell? ⟨o, 0, none⟩ = some (.pointer (some ⟨cb, 0, none⟩)))) := Lib.hid (fun V V2 hb hk => by
    have hlt := HLT.out
    obtain ⟨_, e0, e1, e2, e3, _⟩ := cells26 ((HX1.out.below hb).keep hk (by omega))
    have e4 : V2.cell? ⟨o, 0, none⟩ = some (.pointer (some ⟨cb, 0, none⟩)) := ((((HM.out.below hb).m.blk).keep hk (by
      rintro (e | e | e)
      · exact HM.out.m.blk.ne_ HM.out.c.row (by decide) e
      · exact HM.out.m.blk.ne_ HM.out.b (by decide) e
      · exact HM.out.m.blk.ne_ HM.out.r (by decide) e)).cell 0).trans rfl
    exact ⟨e1, e2, e3, e4⟩)
  have HS0 := Lib.hid (HS.out W0.drew W0.drew (Below.refl _ _).drew (Keep.refl _ _))
  clear c0 d1 d2 d3
  go_upto_region 8 with fail
  refine wp_region_till (fun V => V.cell? ⟨w.heap.size, 1, none⟩ = some (.int .i64 (j : Nat)) ∧ V.cell? ⟨w.heap.size, 2, none⟩ = some (.int .u64 (vr l j : Nat)) ∧ V.cell? ⟨w.heap.size, 3, none⟩ = some (.int .u64 (a.word : Nat)) ∧ V.cell? ⟨o, 0, none⟩ = some (.pointer (some ⟨cb, 0, none⟩))) 15 (by rfl) ?_
  refine wpAnyS_take 0 (some 46) [15] rfl rfl (by kernel_rfl) (by kernel_rfl) (by kernel_rfl) (by kernel_rfl) (by kernel_rfl) (by kernel_rfl) (by kernel_rfl) (fun _ _ _ h => h) (by rfl) (by intro V hV9; obtain ⟨y1, y2, y3, y4⟩ := hV9; go_simp; (first | done | (with_reducible rfl))) HS0.out ?_
  simp only [Act.put, List.setIfInBounds_toArray, List.set_cons_zero, List.set_cons_succ]
  refine wpAnyS_take 1 (some 47) [15] rfl rfl (by kernel_rfl) (by kernel_rfl) (by kernel_rfl) (by kernel_rfl) (by kernel_rfl) (by kernel_rfl) (by kernel_rfl) (fun _ _ _ h => h) (by rfl) (by intro V hV9; obtain ⟨y1, y2, y3, y4⟩ := hV9; go_simp; (first | done | (with_reducible rfl))) HS0.out ?_
  simp only [Act.put, List.setIfInBounds_toArray, List.set_cons_zero, List.set_cons_succ]
  refine wpAnyS_take 2 (some 48) [15] rfl rfl (by kernel_rfl) (by kernel_rfl) (by kernel_rfl) (by kernel_rfl) (by kernel_rfl) (by kernel_rfl) (by kernel_rfl) (fun _ _ _ h => h) (by rfl) (by intro V hV9; obtain ⟨y1, y2, y3, y4⟩ := hV9; go_simp; (first | done | (with_reducible rfl))) HS0.out ?_
  simp only [Act.put, List.setIfInBounds_toArray, List.set_cons_zero, List.set_cons_succ]
  refine wpAnyS_take 3 (some 49) [15] rfl rfl (by kernel_rfl) (by kernel_rfl) (by kernel_rfl) (by kernel_rfl) (by kernel_rfl) (by kernel_rfl) (by kernel_rfl) (fun _ _ _ h => h) (by rfl) (by intro V hV9; obtain ⟨y1, y2, y3, y4⟩ := hV9; go_simp; (first | done | (with_reducible rfl))) HS0.out ?_
  simp only [Act.put, List.setIfInBounds_toArray, List.set_cons_zero, List.set_cons_succ]
  refine wpAnyS_take 4 (some 50) [15] rfl rfl (by kernel_rfl) (by kernel_rfl) (by kernel_rfl) (by kernel_rfl) (by kernel_rfl) (by kernel_rfl) (by kernel_rfl) (fun _ _ _ h => h) (by rfl) (by intro V hV9; obtain ⟨y1, y2, y3, y4⟩ := hV9; go_simp; (first | done | (with_reducible rfl))) HS0.out ?_
  simp only [Act.put, List.setIfInBounds_toArray, List.set_cons_zero, List.set_cons_succ]
  refine wpAnyS_take 5 (some 51) [15] rfl rfl (by kernel_rfl) (by kernel_rfl) (by kernel_rfl) (by kernel_rfl) (by kernel_rfl) (by kernel_rfl) (by kernel_rfl) (fun _ _ _ h => h) (by rfl) (by intro V hV9; obtain ⟨y1, y2, y3, y4⟩ := hV9; go_simp; (first | done | (with_reducible rfl))) HS0.out ?_
  simp only [Act.put, List.setIfInBounds_toArray, List.set_cons_zero, List.set_cons_succ]
  refine wpAnyS_take 6 (some 52) [15] rfl rfl (by kernel_rfl) (by kernel_rfl) (by kernel_rfl) (by kernel_rfl) (by kernel_rfl) (by kernel_rfl) (by kernel_rfl) (fun _ _ _ h => h) (by rfl) (by intro V hV9; obtain ⟨y1, y2, y3, y4⟩ := hV9; go_simp; (first | done | (with_reducible rfl))) HS0.out ?_
  simp only [Act.put, List.setIfInBounds_toArray, List.set_cons_zero, List.set_cons_succ]
  refine wpAnyS_take 7 (some 53) [15] rfl rfl (by kernel_rfl) (by kernel_rfl) (by kernel_rfl) (by kernel_rfl) (by kernel_rfl) (by kernel_rfl) (by kernel_rfl) (fun _ _ _ h => h) (by rfl) (by intro V hV9; obtain ⟨y1, y2, y3, y4⟩ := hV9; go_simp; (first | done | (with_reducible rfl))) HS0.out ?_
  simp only [Act.put, List.setIfInBounds_toArray, List.set_cons_zero, List.set_cons_succ]
  refine wpAnyS_take 8 (some 54) [15] rfl rfl (by kernel_rfl) (by kernel_rfl) (by kernel_rfl) (by kernel_rfl) (by kernel_rfl) (by kernel_rfl) (by kernel_rfl) (fun _ _ _ h => h) (by rfl) (by intro V hV9; obtain ⟨y1, y2, y3, y4⟩ := hV9; go_simp; (first | done | (with_reducible rfl))) HS0.out ?_
  simp only [Act.put, List.setIfInBounds_toArray, List.set_cons_zero, List.set_cons_succ]
  refine wpAnyS_take 9 (some 55) [15] rfl rfl (by kernel_rfl) (by kernel_rfl) (by kernel_rfl) (by kernel_rfl) (by kernel_rfl) (by kernel_rfl) (by kernel_rfl) (fun _ _ _ h => h) (by rfl) (by intro V hV9; obtain ⟨y1, y2, y3, y4⟩ := hV9; go_simp; (first | done | (with_reducible rfl))) HS0.out ?_
  simp only [Act.put, List.setIfInBounds_toArray, List.set_cons_zero, List.set_cons_succ]
  refine wpAnyS_take 10 (some 56) [15] rfl rfl (by kernel_rfl) (by kernel_rfl) (by kernel_rfl) (by kernel_rfl) (by kernel_rfl) (by kernel_rfl) (by kernel_rfl) (fun _ _ _ h => h) (by rfl) (by intro V hV9; obtain ⟨y1, y2, y3, y4⟩ := hV9; go_simp; (first | done | (with_reducible rfl))) HS0.out ?_
  simp only [Act.put, List.setIfInBounds_toArray, List.set_cons_zero, List.set_cons_succ]
  refine wpAnyS_take 11 (some 57) [15] rfl rfl (by kernel_rfl) (by kernel_rfl) (by kernel_rfl) (by kernel_rfl) (by kernel_rfl) (by kernel_rfl) (by kernel_rfl) (fun _ _ _ h => h) (by rfl) (by intro V hV9; obtain ⟨y1, y2, y3, y4⟩ := hV9; go_simp; (first | done | (with_reducible rfl))) HS0.out ?_
  simp only [Act.put, List.setIfInBounds_toArray, List.set_cons_zero, List.set_cons_succ]
  refine wpAnyS_take 12 (some 58) [15] rfl rfl (by kernel_rfl) (by kernel_rfl) (by kernel_rfl) (by kernel_rfl) (by kernel_rfl) (by kernel_rfl) (by kernel_rfl) (fun _ _ _ h => h) (by rfl) (by intro V hV9; obtain ⟨y1, y2, y3, y4⟩ := hV9; go_simp; (first | done | (with_reducible rfl))) HS0.out ?_
  simp only [Act.put, List.setIfInBounds_toArray, List.set_cons_zero, List.set_cons_succ]
  refine wpAnyS_ready [13] (by kernel_rfl) (by simp) ?_
  refine AllReadyS.cons rfl (fun K9 hK => ?_) AllReadyS.nil
  go_simp
  go_at_call 58
  refine (HST.out _ (Below.refl _ _).drew).mono ?_
  rintro e w2 ⟨rfl, hw2⟩
  have hm2 := (HM.out.below (Below.refl _ _).drew).setC hw2 (by rw [List.length_set])
  have HKW := Lib.hid (Keep.under (Below.refl _ _).drew (hw2.keep.mono (S2 := fun k => k = cg ∨ k = bg ∨ k = rg) (fun k e => Or.inl e)))
  have HS2 := Lib.hid (HS.out W0.drew w2 (Below.refl _ _).drew (hw2.keep.mono (fun k e => Or.inl e)))
  have HXW := Lib.hid ((HX2.out.below (Below.refl _ _).drew).keep hw2.keep (by have := HLT.out; omega))
  have HWY := Lib.hid (written_yes p o cb cg bg rg A T j _ B R (by rw [List.length_set]; exact hj) w2 hm2)
  clear hw2 hm2
  refine hK.out _ _ (fun _ => HS2.out) ?_
  clear hK K9
  refine wpAnyS_ready [14] (by kernel_rfl) (by simp) ?_
  refine AllReadyS.cons rfl (fun K9 hK => ?_) AllReadyS.nil
  go_simp
  go_at_call 56
  refine HWY.out.mono ?_
  rintro e w3 ⟨rfl, hm3, hk3⟩
  have HM3 := Lib.hid hm3
  have HK3 := Lib.hid (HKW.out.trans hk3 (fun _ _ e => e))
  have HXR := Lib.hid (HXW.out.keep hk3 (by have := HLT.out; omega))
  have HS3 := Lib.hid (HS.out W0 w3 (Below.refl _ _) HK3.out)
  clear hm3 hk3 HWY
  refine hK.out _ _ (fun _ => HS3.out) ?_
  clear hK K9
  refine wpAnyS_ready [15] (by kernel_rfl) (by simp) ?_
  refine AllReadyS.cons rfl (fun K9 hK => ?_) AllReadyS.nil
  refine step_store_blk rfl 45 (.tmp 4) (.tmp 60) rfl (w.heap.size + 1) 45 _ [.bool true, .int .u64 0, .int .u64 0, .int .i64 0, .int .i64 0, .string ⟨#[]⟩, .string ⟨#[]⟩, .bool false, .int .i64 0, .slice none 0 0, .slice none 0 0, .slice none 0 0, .int .i64 0, .int .i64 0, .string ⟨#[]⟩, .int .u64 0, .slice none 0 0, .slice none 0 0, .slice none 0 0, .slice none 0 0, .int .i64 0, .string ⟨#[]⟩, .string ⟨#[]⟩, .int .u64 0, .int .i64 0] rfl rfl HXR.out rfl szReply (by simp [Value.oneCell']) ?_
  intro W hW1 hW2
  refine hK.out _ _ (fun h => absurd h (by decide)) ?_
  clear hK K9
  refine wpAnyS_done (by kernel_rfl) ?_ _
  go_wp2
  refine bodyPost_ret (ret_reply rfl rfl hW1.out rfl) rfl ?_
  have hlt := HLT.out
  exact ⟨rfl, HM3.out.own hW2.out (by omega) (by omega) (by omega) (by omega) (by omega) (by omega), Keep.own3 (Keep.under HX3.out HK3.out) hW2.out (Nat.le_succ _)⟩
set_option maxHeartbeats 2000000 in
set_option maxRecDepth 100000 in
theorem do_cas_no (p o cb cg bg rg A T : Nat) (l : List (Nat × Nat)) (B : List Bl) (R : List OpV) (a : AcV) (hj : ∀ W, CellsAt W cb cg l → Calls Try.prog 58 #[.pointer (some ⟨cb, 0, none⟩), .int .i64 a.at_, .int .u64 (a.ver : Nat), .int .u64 (a.word : Nat)] W fun e w' => e = .returned (.bool false) ∧ W = w') (w : World) (h : MemAt w p o cb cg bg rg A T l B R) :
    Calls Try.prog 35 #[.pointer (some ⟨o, 0, none⟩), .agg #[.int .i64 3, .int .i64 a.at_, .int .u64 a.ver, .int .u64 a.word, .int .i64 a.b.k, .int .i64 a.b.lv, .string a.b.lo, .string a.b.hi, .bool a.b.la, .int .i64 a.b.nx, .slice a.b.p1 a.b.n1 a.b.c1, .slice a.b.p2 a.b.n2 a.b.c2, .slice a.b.p3 a.b.n3 a.b.c3, .int .i64 a.b.th, .int .i64 a.b.ac, .string a.b.ak, .int .u64 a.b.av, .slice a.b.p4 a.b.n4 a.b.c4, .slice a.b.p5 a.b.n5 a.b.c5, .slice a.b.p6 a.b.n6 a.b.c6, .slice a.b.p7 a.b.n7 a.b.c7, .int .i64 a.o.k, .string a.o.key, .string a.o.to, .int .u64 a.o.v, .int .i64 a.o.lim]] w fun e w' => Done w w' e p o cb cg bg rg A T l B R NoV := by
  have hlt := h.ltA
  obtain ⟨hx1, hx2, hx3⟩ := two_blk w 48 45 #[.int .i64 3, .int .i64 a.at_, .int .u64 a.ver, .int .u64 a.word, .int .i64 a.b.k, .int .i64 a.b.lv, .string a.b.lo, .string a.b.hi, .bool a.b.la, .int .i64 a.b.nx, .slice a.b.p1 a.b.n1 a.b.c1, .slice a.b.p2 a.b.n2 a.b.c2, .slice a.b.p3 a.b.n3 a.b.c3, .int .i64 a.b.th, .int .i64 a.b.ac, .string a.b.ak, .int .u64 a.b.av, .slice a.b.p4 a.b.n4 a.b.c4, .slice a.b.p5 a.b.n5 a.b.c5, .slice a.b.p6 a.b.n6 a.b.c6, .slice a.b.p7 a.b.n7 a.b.c7, .int .i64 a.o.k, .string a.o.key, .string a.o.to, .int .u64 a.o.v, .int .i64 a.o.lim] #[.bool false, .int .u64 0, .int .u64 0, .int .i64 0, .int .i64 0, .string ⟨#[]⟩, .string ⟨#[]⟩, .bool false, .int .i64 0, .slice none 0 0, .slice none 0 0, .slice none 0 0, .int .i64 0, .int .i64 0, .string ⟨#[]⟩, .int .u64 0, .slice none 0 0, .slice none 0 0, .slice none 0 0, .slice none 0 0, .int .i64 0, .string ⟨#[]⟩, .string ⟨#[]⟩, .int .u64 0, .int .i64 0]
  obtain ⟨W0, hW0⟩ : ∃ W, W = (w.alloc (.cells #[.int .i64 3, .int .i64 a.at_, .int .u64 a.ver, .int .u64 a.word, .int .i64 a.b.k, .int .i64 a.b.lv, .string a.b.lo, .string a.b.hi, .bool a.b.la, .int .i64 a.b.nx, .slice a.b.p1 a.b.n1 a.b.c1, .slice a.b.p2 a.b.n2 a.b.c2, .slice a.b.p3 a.b.n3 a.b.c3, .int .i64 a.b.th, .int .i64 a.b.ac, .string a.b.ak, .int .u64 a.b.av, .slice a.b.p4 a.b.n4 a.b.c4, .slice a.b.p5 a.b.n5 a.b.c5, .slice a.b.p6 a.b.n6 a.b.c6, .slice a.b.p7 a.b.n7 a.b.c7, .int .i64 a.o.k, .string a.o.key, .string a.o.to, .int .u64 a.o.v, .int .i64 a.o.lim] 48)).alloc (.cells #[.bool false, .int .u64 0, .int .u64 0, .int .i64 0, .int .i64 0, .string ⟨#[]⟩, .string ⟨#[]⟩, .bool false, .int .i64 0, .slice none 0 0, .slice none 0 0, .slice none 0 0, .int .i64 0, .int .i64 0, .string ⟨#[]⟩, .int .u64 0, .slice none 0 0, .slice none 0 0, .slice none 0 0, .slice none 0 0, .int .i64 0, .string ⟨#[]⟩, .string ⟨#[]⟩, .int .u64 0, .int .i64 0] 45) := ⟨_, rfl⟩
  rw [← hW0] at hx1 hx2 hx3
  have HW0 := Lib.hid hW0
  have HX1 := Lib.hid hx1
  have HX2 := Lib.hid hx2
  have HX3 := Lib.hid hx3
  have HM := Lib.hid (h.below hx3)
  have HLT := Lib.hid hlt
  have c0 := HM.out.m.c0
  obtain ⟨fz, d0, d1, d2, d3, d4, d5, d6, d7, d8, d9, d10, d11, d12, d13, d14, d15, d16, d17, d18, d19, d20, d21, d22, d23, d24, d25⟩ := cells26 hx1
  clear hW0 hx1 hx2 hx3 h hlt fz d4 d5 d6 d7 d8 d9 d10 d11 d12 d13 d14 d15 d16 d17 d18 d19 d20 d21 d22 d23 d24 d25
  go_enter Try.func35, Try.ntmps35
  go_upto_region 1 with fail
  rw [← HW0.out]
  clear HW0
  have HST := Lib.hid (fun W (hb : Below W0.heap.size W0 W) => hj W (HM.out.below hb).c)
  have HS : Hid (∀ V V2, Below W0.heap.size W0 V → Keep (fun k => k = cg ∨ k = bg ∨ k = rg) V V2 → (V2.cell? ⟨w.heap.size, 1, none⟩ = some (.int .i64 a.at_) ∧ V2.cell? ⟨w.heap.size, 2, none⟩ = some (.int .u64 (a.ver : Nat)) ∧ V2.cell? ⟨w.heap.size, 3, none⟩ = some (.int .u64 (a.word : Nat)) ∧ V2.cell? ⟨o, 0, none⟩ = some (.pointer (some ⟨cb, 0, none⟩)))) := Lib.hid (fun V V2 hb hk => by
    have hlt := HLT.out
    obtain ⟨_, e0, e1, e2, e3, _⟩ := cells26 ((HX1.out.below hb).keep hk (by omega))
    have e4 : V2.cell? ⟨o, 0, none⟩ = some (.pointer (some ⟨cb, 0, none⟩)) := ((((HM.out.below hb).m.blk).keep hk (by
      rintro (e | e | e)
      · exact HM.out.m.blk.ne_ HM.out.c.row (by decide) e
      · exact HM.out.m.blk.ne_ HM.out.b (by decide) e
      · exact HM.out.m.blk.ne_ HM.out.r (by decide) e)).cell 0).trans rfl
    exact ⟨e1, e2, e3, e4⟩)
  have HS0 := Lib.hid (HS.out W0.drew W0.drew (Below.refl _ _).drew (Keep.refl _ _))
  clear c0 d1 d2 d3
  go_upto_region 8 with fail
  refine wp_region_till (fun V => V.cell? ⟨w.heap.size, 1, none⟩ = some (.int .i64 a.at_) ∧ V.cell? ⟨w.heap.size, 2, none⟩ = some (.int .u64 (a.ver : Nat)) ∧ V.cell? ⟨w.heap.size, 3, none⟩ = some (.int .u64 (a.word : Nat)) ∧ V.cell? ⟨o, 0, none⟩ = some (.pointer (some ⟨cb, 0, none⟩))) 15 (by rfl) ?_
  refine wpAnyS_take 0 (some 46) [15] rfl rfl (by kernel_rfl) (by kernel_rfl) (by kernel_rfl) (by kernel_rfl) (by kernel_rfl) (by kernel_rfl) (by kernel_rfl) (fun _ _ _ h => h) (by rfl) (by intro V hV9; obtain ⟨y1, y2, y3, y4⟩ := hV9; go_simp; (first | done | (with_reducible rfl))) HS0.out ?_
  simp only [Act.put, List.setIfInBounds_toArray, List.set_cons_zero, List.set_cons_succ]
  refine wpAnyS_take 1 (some 47) [15] rfl rfl (by kernel_rfl) (by kernel_rfl) (by kernel_rfl) (by kernel_rfl) (by kernel_rfl) (by kernel_rfl) (by kernel_rfl) (fun _ _ _ h => h) (by rfl) (by intro V hV9; obtain ⟨y1, y2, y3, y4⟩ := hV9; go_simp; (first | done | (with_reducible rfl))) HS0.out ?_
  simp only [Act.put, List.setIfInBounds_toArray, List.set_cons_zero, List.set_cons_succ]
  refine wpAnyS_take 2 (some 48) [15] rfl rfl (by kernel_rfl) (by kernel_rfl) (by kernel_rfl) (by kernel_rfl) (by kernel_rfl) (by kernel_rfl) (by kernel_rfl) (fun _ _ _ h => h) (by rfl) (by intro V hV9; obtain ⟨y1, y2, y3, y4⟩ := hV9; go_simp; (first | done | (with_reducible rfl))) HS0.out ?_
  simp only [Act.put, List.setIfInBounds_toArray, List.set_cons_zero, List.set_cons_succ]
  refine wpAnyS_take 3 (some 49) [15] rfl rfl (by kernel_rfl) (by kernel_rfl) (by kernel_rfl) (by kernel_rfl) (by kernel_rfl) (by kernel_rfl) (by kernel_rfl) (fun _ _ _ h => h) (by rfl) (by intro V hV9; obtain ⟨y1, y2, y3, y4⟩ := hV9; go_simp; (first | done | (with_reducible rfl))) HS0.out ?_
  simp only [Act.put, List.setIfInBounds_toArray, List.set_cons_zero, List.set_cons_succ]
  refine wpAnyS_take 4 (some 50) [15] rfl rfl (by kernel_rfl) (by kernel_rfl) (by kernel_rfl) (by kernel_rfl) (by kernel_rfl) (by kernel_rfl) (by kernel_rfl) (fun _ _ _ h => h) (by rfl) (by intro V hV9; obtain ⟨y1, y2, y3, y4⟩ := hV9; go_simp; (first | done | (with_reducible rfl))) HS0.out ?_
  simp only [Act.put, List.setIfInBounds_toArray, List.set_cons_zero, List.set_cons_succ]
  refine wpAnyS_take 5 (some 51) [15] rfl rfl (by kernel_rfl) (by kernel_rfl) (by kernel_rfl) (by kernel_rfl) (by kernel_rfl) (by kernel_rfl) (by kernel_rfl) (fun _ _ _ h => h) (by rfl) (by intro V hV9; obtain ⟨y1, y2, y3, y4⟩ := hV9; go_simp; (first | done | (with_reducible rfl))) HS0.out ?_
  simp only [Act.put, List.setIfInBounds_toArray, List.set_cons_zero, List.set_cons_succ]
  refine wpAnyS_take 6 (some 52) [15] rfl rfl (by kernel_rfl) (by kernel_rfl) (by kernel_rfl) (by kernel_rfl) (by kernel_rfl) (by kernel_rfl) (by kernel_rfl) (fun _ _ _ h => h) (by rfl) (by intro V hV9; obtain ⟨y1, y2, y3, y4⟩ := hV9; go_simp; (first | done | (with_reducible rfl))) HS0.out ?_
  simp only [Act.put, List.setIfInBounds_toArray, List.set_cons_zero, List.set_cons_succ]
  refine wpAnyS_take 7 (some 53) [15] rfl rfl (by kernel_rfl) (by kernel_rfl) (by kernel_rfl) (by kernel_rfl) (by kernel_rfl) (by kernel_rfl) (by kernel_rfl) (fun _ _ _ h => h) (by rfl) (by intro V hV9; obtain ⟨y1, y2, y3, y4⟩ := hV9; go_simp; (first | done | (with_reducible rfl))) HS0.out ?_
  simp only [Act.put, List.setIfInBounds_toArray, List.set_cons_zero, List.set_cons_succ]
  refine wpAnyS_take 8 (some 54) [15] rfl rfl (by kernel_rfl) (by kernel_rfl) (by kernel_rfl) (by kernel_rfl) (by kernel_rfl) (by kernel_rfl) (by kernel_rfl) (fun _ _ _ h => h) (by rfl) (by intro V hV9; obtain ⟨y1, y2, y3, y4⟩ := hV9; go_simp; (first | done | (with_reducible rfl))) HS0.out ?_
  simp only [Act.put, List.setIfInBounds_toArray, List.set_cons_zero, List.set_cons_succ]
  refine wpAnyS_take 9 (some 55) [15] rfl rfl (by kernel_rfl) (by kernel_rfl) (by kernel_rfl) (by kernel_rfl) (by kernel_rfl) (by kernel_rfl) (by kernel_rfl) (fun _ _ _ h => h) (by rfl) (by intro V hV9; obtain ⟨y1, y2, y3, y4⟩ := hV9; go_simp; (first | done | (with_reducible rfl))) HS0.out ?_
  simp only [Act.put, List.setIfInBounds_toArray, List.set_cons_zero, List.set_cons_succ]
  refine wpAnyS_take 10 (some 56) [15] rfl rfl (by kernel_rfl) (by kernel_rfl) (by kernel_rfl) (by kernel_rfl) (by kernel_rfl) (by kernel_rfl) (by kernel_rfl) (fun _ _ _ h => h) (by rfl) (by intro V hV9; obtain ⟨y1, y2, y3, y4⟩ := hV9; go_simp; (first | done | (with_reducible rfl))) HS0.out ?_
  simp only [Act.put, List.setIfInBounds_toArray, List.set_cons_zero, List.set_cons_succ]
  refine wpAnyS_take 11 (some 57) [15] rfl rfl (by kernel_rfl) (by kernel_rfl) (by kernel_rfl) (by kernel_rfl) (by kernel_rfl) (by kernel_rfl) (by kernel_rfl) (fun _ _ _ h => h) (by rfl) (by intro V hV9; obtain ⟨y1, y2, y3, y4⟩ := hV9; go_simp; (first | done | (with_reducible rfl))) HS0.out ?_
  simp only [Act.put, List.setIfInBounds_toArray, List.set_cons_zero, List.set_cons_succ]
  refine wpAnyS_take 12 (some 58) [15] rfl rfl (by kernel_rfl) (by kernel_rfl) (by kernel_rfl) (by kernel_rfl) (by kernel_rfl) (by kernel_rfl) (by kernel_rfl) (fun _ _ _ h => h) (by rfl) (by intro V hV9; obtain ⟨y1, y2, y3, y4⟩ := hV9; go_simp; (first | done | (with_reducible rfl))) HS0.out ?_
  simp only [Act.put, List.setIfInBounds_toArray, List.set_cons_zero, List.set_cons_succ]
  refine wpAnyS_ready [13] (by kernel_rfl) (by simp) ?_
  refine AllReadyS.cons rfl (fun K9 hK => ?_) AllReadyS.nil
  go_simp
  go_at_call 58
  refine (HST.out _ (Below.refl _ _).drew).mono ?_
  rintro e w2 ⟨rfl, hw2⟩
  rw [← hw2]
  clear hw2
  refine hK.out _ _ (fun _ => HS0.out) ?_
  clear hK K9
  refine wpAnyS_ready [14] (by kernel_rfl) (by simp) ?_
  refine AllReadyS.cons rfl (fun K9 hK => ?_) AllReadyS.nil
  go_simp
  go_at_call 56
  refine (written_no o A T a.at_ _ _ _ _ (HM.out.below (Below.refl _ _).drew).m).mono ?_
  rintro e w3 ⟨rfl, hb3⟩
  have hb4 : Below W0.heap.size W0 w3 := (Below.refl _ _).drew.trans hb3
  have HXR := Lib.hid (HX2.out.below (w' := w3) hb4)
  have HM3 := Lib.hid (HM.out.below (w' := w3) hb4)
  have HBR := Lib.hid (HX3.out.trans (hb4.mono HX3.out.size))
  have HS3 := Lib.hid (HS.out w3 w3 hb4 (Keep.refl _ _))
  clear hb3 hb4
  refine hK.out _ _ (fun _ => HS3.out) ?_
  clear hK K9
  refine wpAnyS_ready [15] (by kernel_rfl) (by simp) ?_
  refine AllReadyS.cons rfl (fun K9 hK => ?_) AllReadyS.nil
  refine step_store_blk rfl 45 (.tmp 4) (.tmp 60) rfl (w.heap.size + 1) 45 _ [.bool false, .int .u64 0, .int .u64 0, .int .i64 0, .int .i64 0, .string ⟨#[]⟩, .string ⟨#[]⟩, .bool false, .int .i64 0, .slice none 0 0, .slice none 0 0, .slice none 0 0, .int .i64 0, .int .i64 0, .string ⟨#[]⟩, .int .u64 0, .slice none 0 0, .slice none 0 0, .slice none 0 0, .slice none 0 0, .int .i64 0, .string ⟨#[]⟩, .string ⟨#[]⟩, .int .u64 0, .int .i64 0] rfl rfl HXR.out rfl szReply (by simp [Value.oneCell']) ?_
  intro W hW1 hW2
  refine hK.out _ _ (fun h => absurd h (by decide)) ?_
  clear hK K9
  refine wpAnyS_done (by kernel_rfl) ?_ _
  go_wp2
  refine bodyPost_ret (ret_reply rfl rfl hW1.out rfl) rfl ?_
  have hlt := HLT.out
  exact ⟨rfl, HM3.out.own hW2.out (by omega) (by omega) (by omega) (by omega) (by omega) (by omega), Keep.own3 (Keep.of_below HBR.out _) hW2.out (Nat.le_succ _)⟩
end Go.Proofs.Ytkdjcikilabehaa
