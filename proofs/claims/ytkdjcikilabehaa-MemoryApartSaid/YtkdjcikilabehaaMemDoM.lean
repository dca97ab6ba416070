/- Do and Block of a memory that is none. Condition: words are words. -/
import Derived.Test.YtkdjcikilabehaaMemDoN
namespace Go.Proofs.Ytkdjcikilabehaa
open Go.RowKit
theorem exec_load_blk {P : Program} {o : Oper} {a : Act} {w : World} (ty : TypeId) (x : Operand) (ho : o.op = .load ty x) (g : Nat) (t : TypeId) (vs : List Value) (d : TypeDesc) (hx : a.eval x = .pointer (some ⟨g, 0, none⟩)) (hb : Blk w g t vs.toArray)
    (hu : P.underlying ty = some d) (hd : d.isRow = true) (hi : (P.info? ty).map (·.size) = some vs.length) : (execOp a.eval o).run P w = .ok (.value (.agg vs.toArray)) w := by
  unfold execOp
  simp only [ho, hx, Instr.loadAt, Instr.sureAddr, Sem.run_bind, Sem.run_pure, Result.andThen_ok, run_loadVar_mid w g 0 ty vs d (range_of hb) hu hd hi]
set_option maxHeartbeats 4000000 in
set_option maxRecDepth 100000 in
theorem mDo_none (v : Value) (a : AcV) (hw : a.word < 18446744073709551616) (w : World) (h : Mem w v 0 0 (.pointer none) (.slice none 0 0) (.slice none 0 0)) :
    Calls Try.prog 11 #[v, .agg #[.int .i64 a.k, .int .i64 a.at_, .int .u64 a.ver, .int .u64 a.word, .int .i64 a.b.k, .int .i64 a.b.lv, .string a.b.lo, .string a.b.hi, .bool a.b.la, .int .i64 a.b.nx, .slice a.b.p1 a.b.n1 a.b.c1, .slice a.b.p2 a.b.n2 a.b.c2, .slice a.b.p3 a.b.n3 a.b.c3, .int .i64 a.b.th, .int .i64 a.b.ac, .string a.b.ak, .int .u64 a.b.av, .slice a.b.p4 a.b.n4 a.b.c4, .slice a.b.p5 a.b.n5 a.b.c5, .slice a.b.p6 a.b.n6 a.b.c6, .slice a.b.p7 a.b.n7 a.b.c7, .int .i64 a.o.k, .string a.o.key, .string a.o.to, .int .u64 a.o.v, .int .i64 a.o.lim]] w fun e w' => NoR w w' e := by
  obtain ⟨hx1, hx2, hx3⟩ := two_blk w 48 45 #[.int .i64 a.k, .int .i64 a.at_, .int .u64 a.ver, .int .u64 a.word, .int .i64 a.b.k, .int .i64 a.b.lv, .string a.b.lo, .string a.b.hi, .bool a.b.la, .int .i64 a.b.nx, .slice a.b.p1 a.b.n1 a.b.c1, .slice a.b.p2 a.b.n2 a.b.c2, .slice a.b.p3 a.b.n3 a.b.c3, .int .i64 a.b.th, .int .i64 a.b.ac, .string a.b.ak, .int .u64 a.b.av, .slice a.b.p4 a.b.n4 a.b.c4, .slice a.b.p5 a.b.n5 a.b.c5, .slice a.b.p6 a.b.n6 a.b.c6, .slice a.b.p7 a.b.n7 a.b.c7, .int .i64 a.o.k, .string a.o.key, .string a.o.to, .int .u64 a.o.v, .int .i64 a.o.lim] #[.bool false, .int .u64 0, .int .u64 0, .int .i64 0, .int .i64 0, .string ⟨#[]⟩, .string ⟨#[]⟩, .bool false, .int .i64 0, .slice none 0 0, .slice none 0 0, .slice none 0 0, .int .i64 0, .int .i64 0, .string ⟨#[]⟩, .int .u64 0, .slice none 0 0, .slice none 0 0, .slice none 0 0, .slice none 0 0, .int .i64 0, .string ⟨#[]⟩, .string ⟨#[]⟩, .int .u64 0, .int .i64 0]
  obtain ⟨W0, hW0⟩ : ∃ W, W = (w.alloc (.cells #[.int .i64 a.k, .int .i64 a.at_, .int .u64 a.ver, .int .u64 a.word, .int .i64 a.b.k, .int .i64 a.b.lv, .string a.b.lo, .string a.b.hi, .bool a.b.la, .int .i64 a.b.nx, .slice a.b.p1 a.b.n1 a.b.c1, .slice a.b.p2 a.b.n2 a.b.c2, .slice a.b.p3 a.b.n3 a.b.c3, .int .i64 a.b.th, .int .i64 a.b.ac, .string a.b.ak, .int .u64 a.b.av, .slice a.b.p4 a.b.n4 a.b.c4, .slice a.b.p5 a.b.n5 a.b.c5, .slice a.b.p6 a.b.n6 a.b.c6, .slice a.b.p7 a.b.n7 a.b.c7, .int .i64 a.o.k, .string a.o.key, .string a.o.to, .int .u64 a.o.v, .int .i64 a.o.lim] 48)).alloc (.cells #[.bool false, .int .u64 0, .int .u64 0, .int .i64 0, .int .i64 0, .string ⟨#[]⟩, .string ⟨#[]⟩, .bool false, .int .i64 0, .slice none 0 0, .slice none 0 0, .slice none 0 0, .int .i64 0, .int .i64 0, .string ⟨#[]⟩, .int .u64 0, .slice none 0 0, .slice none 0 0, .slice none 0 0, .slice none 0 0, .int .i64 0, .string ⟨#[]⟩, .string ⟨#[]⟩, .int .u64 0, .int .i64 0] 45) := ⟨_, rfl⟩
  rw [← hW0] at hx1 hx2 hx3
  have HW0 := Lib.hid hW0
  have HX2 := Lib.hid hx2
  have HX3 := Lib.hid hx3
  have HA := Lib.hid (h.below hx3)
  have HS : Hid (∀ V, Below W0.heap.size W0 V → Blk V w.heap.size 48 #[.int .i64 a.k, .int .i64 a.at_, .int .u64 a.ver, .int .u64 a.word, .int .i64 a.b.k, .int .i64 a.b.lv, .string a.b.lo, .string a.b.hi, .bool a.b.la, .int .i64 a.b.nx, .slice a.b.p1 a.b.n1 a.b.c1, .slice a.b.p2 a.b.n2 a.b.c2, .slice a.b.p3 a.b.n3 a.b.c3, .int .i64 a.b.th, .int .i64 a.b.ac, .string a.b.ak, .int .u64 a.b.av, .slice a.b.p4 a.b.n4 a.b.c4, .slice a.b.p5 a.b.n5 a.b.c5, .slice a.b.p6 a.b.n6 a.b.c6, .slice a.b.p7 a.b.n7 a.b.c7, .int .i64 a.o.k, .string a.o.key, .string a.o.to, .int .u64 a.o.v, .int .i64 a.o.lim]) := Lib.hid (fun V hb => hx1.below hb)
  have HS0 := Lib.hid (HS.out W0.drew (Below.refl _ _).drew)
  clear hW0 hx1 hx2 hx3 h
  go_enter Try.func11, Try.ntmps11
  go_upto_region 1 with fail
  rw [← HW0.out]
  clear HW0
  refine wp_region_till (fun V => Blk V w.heap.size 48 #[.int .i64 a.k, .int .i64 a.at_, .int .u64 a.ver, .int .u64 a.word, .int .i64 a.b.k, .int .i64 a.b.lv, .string a.b.lo, .string a.b.hi, .bool a.b.la, .int .i64 a.b.nx, .slice a.b.p1 a.b.n1 a.b.c1, .slice a.b.p2 a.b.n2 a.b.c2, .slice a.b.p3 a.b.n3 a.b.c3, .int .i64 a.b.th, .int .i64 a.b.ac, .string a.b.ak, .int .u64 a.b.av, .slice a.b.p4 a.b.n4 a.b.c4, .slice a.b.p5 a.b.n5 a.b.c5, .slice a.b.p6 a.b.n6 a.b.c6, .slice a.b.p7 a.b.n7 a.b.c7, .int .i64 a.o.k, .string a.o.key, .string a.o.to, .int .u64 a.o.v, .int .i64 a.o.lim]) 4 (by rfl) ?_
  refine wpAnyS_take 0 (some 5) [4] rfl rfl (by kernel_rfl) (by kernel_rfl) (by kernel_rfl) (by kernel_rfl) (by kernel_rfl) (by kernel_rfl) (by kernel_rfl) (fun _ _ _ h => h) (by rfl) (by intro V hV9; go_simp; (first | done | (with_reducible rfl))) HS0.out ?_
  simp only [Act.put, List.setIfInBounds_toArray, List.set_cons_zero, List.set_cons_succ]
  refine wpAnyS_take 2 (some 7) [4] rfl rfl (by kernel_rfl) (by kernel_rfl) (by kernel_rfl) (by kernel_rfl) (by kernel_rfl) (by kernel_rfl) (by kernel_rfl) (fun _ _ _ h => h) (by rfl) (fun V hV9 => exec_load_blk 48 (.tmp 3) rfl w.heap.size 48 [.int .i64 a.k, .int .i64 a.at_, .int .u64 a.ver, .int .u64 a.word, .int .i64 a.b.k, .int .i64 a.b.lv, .string a.b.lo, .string a.b.hi, .bool a.b.la, .int .i64 a.b.nx, .slice a.b.p1 a.b.n1 a.b.c1, .slice a.b.p2 a.b.n2 a.b.c2, .slice a.b.p3 a.b.n3 a.b.c3, .int .i64 a.b.th, .int .i64 a.b.ac, .string a.b.ak, .int .u64 a.b.av, .slice a.b.p4 a.b.n4 a.b.c4, .slice a.b.p5 a.b.n5 a.b.c5, .slice a.b.p6 a.b.n6 a.b.c6, .slice a.b.p7 a.b.n7 a.b.c7, .int .i64 a.o.k, .string a.o.key, .string a.o.to, .int .u64 a.o.v, .int .i64 a.o.lim] _ rfl hV9 Try.underlying48 rfl szAccess) HS0.out ?_
  simp only [Act.put, List.setIfInBounds_toArray, List.set_cons_zero, List.set_cons_succ]
  refine wpAnyS_ready [1] (by kernel_rfl) (by simp) ?_
  refine AllReadyS.cons rfl (fun K9 hK => ?_) AllReadyS.nil
  go_simp
  go_at_call 34
  refine (HA.out _ (Below.refl _ _).drew).mono ?_
  rintro e w2 ⟨o, rfl, hm, hb⟩
  have hb2 : Below W0.heap.size W0 w2 := (Below.refl _ _).drew.trans hb
  have HS2 := Lib.hid (HS.out w2 hb2)
  have HM := Lib.hid hm
  have HB2 := Lib.hid hb2
  clear hm hb hb2
  refine hK.out _ _ (fun _ => HS2.out) ?_
  clear hK K9
  refine wpAnyS_ready [3] (by kernel_rfl) (by simp) ?_
  refine AllReadyS.cons rfl (fun K9 hK => ?_) AllReadyS.nil
  go_simp
  go_at_call 35
  refine (do_none o _ _ a hw w2 HM.out).mono ?_
  rintro e w3 ⟨rfl, hb3⟩
  have hb4 : Below W0.heap.size W0 w3 := HB2.out.trans (hb3.mono HB2.out.size)
  have HXR := Lib.hid (HX2.out.below (w' := w3) hb4)
  have HBR := Lib.hid (HX3.out.trans (hb4.mono HX3.out.size))
  have HS3 := Lib.hid (HS.out w3 hb4)
  clear hb3 hb4
  refine hK.out _ _ (fun _ => HS3.out) ?_
  clear hK K9
  refine wpAnyS_ready [4] (by kernel_rfl) (by simp) ?_
  refine AllReadyS.cons rfl (fun K9 hK => ?_) AllReadyS.nil
  refine step_store_blk rfl 45 (.tmp 4) (.tmp 8) rfl (w.heap.size + 1) 45 _ [.bool false, .int .u64 0, .int .u64 0, .int .i64 0, .int .i64 0, .string ⟨#[]⟩, .string ⟨#[]⟩, .bool false, .int .i64 0, .slice none 0 0, .slice none 0 0, .slice none 0 0, .int .i64 0, .int .i64 0, .string ⟨#[]⟩, .int .u64 0, .slice none 0 0, .slice none 0 0, .slice none 0 0, .slice none 0 0, .int .i64 0, .string ⟨#[]⟩, .string ⟨#[]⟩, .int .u64 0, .int .i64 0] rfl rfl HXR.out rfl szReply (by simp [Value.oneCell']) ?_
  intro W hW1 hW2
  refine hK.out _ _ (fun h => absurd h (by decide)) ?_
  clear hK K9
  refine wpAnyS_done (by kernel_rfl) ?_ _
  go_wp2
  refine bodyPost_ret (ret_reply rfl rfl hW1.out rfl) rfl ?_
  exact ⟨rfl, HBR.out.trans (keep_to hW2.out (Nat.le_succ _) HBR.out.size)⟩
/-- The block that a reference names, of a memory that is none. -/
theorem mBlock_none (v : Value) (word : Nat) (hw : word < 18446744073709551616) (w : World) (h : Mem w v 0 0 (.pointer none) (.slice none 0 0) (.slice none 0 0)) :
    Calls Try.prog 22 #[v, .int .u64 word] w fun e w' => e = .returned (.tuple #[.agg #[.int .i64 0, .int .i64 0, .string ⟨#[]⟩, .string ⟨#[]⟩, .bool false, .int .i64 0, .slice none 0 0, .slice none 0 0, .slice none 0 0, .int .i64 0, .int .i64 0, .string ⟨#[]⟩, .int .u64 0, .slice none 0 0, .slice none 0 0, .slice none 0 0, .slice none 0 0], .bool false]) ∧ Below w.heap.size w w' := by
  have HX := Lib.hid (Blk.new w 41 #[.int .i64 0, .int .i64 0, .string ⟨#[]⟩, .string ⟨#[]⟩, .bool false, .int .i64 0, .slice none 0 0, .slice none 0 0, .slice none 0 0, .int .i64 0, .int .i64 0, .string ⟨#[]⟩, .int .u64 0, .slice none 0 0, .slice none 0 0, .slice none 0 0, .slice none 0 0])
  have HB := Lib.hid (one_alloc w (.cells #[.int .i64 0, .int .i64 0, .string ⟨#[]⟩, .string ⟨#[]⟩, .bool false, .int .i64 0, .slice none 0 0, .slice none 0 0, .slice none 0 0, .int .i64 0, .int .i64 0, .string ⟨#[]⟩, .int .u64 0, .slice none 0 0, .slice none 0 0, .slice none 0 0, .slice none 0 0] 41)).2
  have HA := Lib.hid h
  clear h
  go_enter Try.func22, Try.ntmps22
  go_wp2_with fail
  refine (HA.out _ HB.out).mono ?_
  rintro e w2 ⟨o, rfl, hm, hb⟩
  have HX2 := Lib.hid (HX.out.below (w' := w2) hb)
  have HB2 := Lib.hid (HB.out.trans (hb.mono HB.out.size))
  have HCB := Lib.hid (block_none o word _ _ hw w2 hm)
  clear hb hm HX HB HA
  go_wp2_with fail
  refine HCB.out.mono ?_
  rintro e w3 ⟨rfl, hb3⟩
  have HX3 := Lib.hid (HX2.out.below (w' := w3) hb3)
  have HB3 := Lib.hid (HB2.out.trans (hb3.mono HB2.out.size))
  clear hb3 HX2 HB2
  go_wp2_with (refine wpList_store_blk rfl 41 _ _ rfl w.heap.size 41 _ [.int .i64 0, .int .i64 0, .string ⟨#[]⟩, .string ⟨#[]⟩, .bool false, .int .i64 0, .slice none 0 0, .slice none 0 0, .slice none 0 0, .int .i64 0, .int .i64 0, .string ⟨#[]⟩, .int .u64 0, .slice none 0 0, .slice none 0 0, .slice none 0 0, .slice none 0 0] rfl rfl HX3.out rfl szBlock (by simp [Value.oneCell']) ?_; intro W hW1 hW2)
  refine bodyPost_ret (ret_block_tmp rfl rfl hW1.out rfl) rfl ?_
  exact ⟨rfl, HB3.out.trans (keep_to hW2.out (Nat.le_refl _) HB3.out.size)⟩
end Go.Proofs.Ytkdjcikilabehaa
