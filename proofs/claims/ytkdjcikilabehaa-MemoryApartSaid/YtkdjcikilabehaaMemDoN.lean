/- do of a memory that is none, and Do. Condition: words are words. -/
import Derived.Test.YtkdjcikilabehaaMemNone
import Derived.Test.YtkdjcikilabehaaHeldTill
namespace Go.Proofs.Ytkdjcikilabehaa
open Go.RowKit
set_option maxHeartbeats 4000000 in
set_option maxRecDepth 100000 in
theorem do_none (o : Nat) (bs rs : Value) (a : AcV) (hw : a.word < 18446744073709551616) (w : World) (h : MBox w o 0 0 (.pointer none) bs rs) :
    Calls Try.prog 35 #[.pointer (some ⟨o, 0, none⟩), .agg #[.int .i64 a.k, .int .i64 a.at_, .int .u64 a.ver, .int .u64 a.word, .int .i64 a.b.k, .int .i64 a.b.lv, .string a.b.lo, .string a.b.hi, .bool a.b.la, .int .i64 a.b.nx, .slice a.b.p1 a.b.n1 a.b.c1, .slice a.b.p2 a.b.n2 a.b.c2, .slice a.b.p3 a.b.n3 a.b.c3, .int .i64 a.b.th, .int .i64 a.b.ac, .string a.b.ak, .int .u64 a.b.av, .slice a.b.p4 a.b.n4 a.b.c4, .slice a.b.p5 a.b.n5 a.b.c5, .slice a.b.p6 a.b.n6 a.b.c6, .slice a.b.p7 a.b.n7 a.b.c7, .int .i64 a.o.k, .string a.o.key, .string a.o.to, .int .u64 a.o.v, .int .i64 a.o.lim]] w fun e w' => NoR w w' e := by
  obtain ⟨hx1, hx2, hx3⟩ := two_blk w 48 45 #[.int .i64 a.k, .int .i64 a.at_, .int .u64 a.ver, .int .u64 a.word, .int .i64 a.b.k, .int .i64 a.b.lv, .string a.b.lo, .string a.b.hi, .bool a.b.la, .int .i64 a.b.nx, .slice a.b.p1 a.b.n1 a.b.c1, .slice a.b.p2 a.b.n2 a.b.c2, .slice a.b.p3 a.b.n3 a.b.c3, .int .i64 a.b.th, .int .i64 a.b.ac, .string a.b.ak, .int .u64 a.b.av, .slice a.b.p4 a.b.n4 a.b.c4, .slice a.b.p5 a.b.n5 a.b.c5, .slice a.b.p6 a.b.n6 a.b.c6, .slice a.b.p7 a.b.n7 a.b.c7, .int .i64 a.o.k, .string a.o.key, .string a.o.to, .int .u64 a.o.v, .int .i64 a.o.lim] #[.bool false, .int .u64 0, .int .u64 0, .int .i64 0, .int .i64 0, .string ⟨#[]⟩, .string ⟨#[]⟩, .bool false, .int .i64 0, .slice none 0 0, .slice none 0 0, .slice none 0 0, .int .i64 0, .int .i64 0, .string ⟨#[]⟩, .int .u64 0, .slice none 0 0, .slice none 0 0, .slice none 0 0, .slice none 0 0, .int .i64 0, .string ⟨#[]⟩, .string ⟨#[]⟩, .int .u64 0, .int .i64 0]
  obtain ⟨W0, hW0⟩ : ∃ W, W = (w.alloc (.cells #[.int .i64 a.k, .int .i64 a.at_, .int .u64 a.ver, .int .u64 a.word, .int .i64 a.b.k, .int .i64 a.b.lv, .string a.b.lo, .string a.b.hi, .bool a.b.la, .int .i64 a.b.nx, .slice a.b.p1 a.b.n1 a.b.c1, .slice a.b.p2 a.b.n2 a.b.c2, .slice a.b.p3 a.b.n3 a.b.c3, .int .i64 a.b.th, .int .i64 a.b.ac, .string a.b.ak, .int .u64 a.b.av, .slice a.b.p4 a.b.n4 a.b.c4, .slice a.b.p5 a.b.n5 a.b.c5, .slice a.b.p6 a.b.n6 a.b.c6, .slice a.b.p7 a.b.n7 a.b.c7, .int .i64 a.o.k, .string a.o.key, .string a.o.to, .int .u64 a.o.v, .int .i64 a.o.lim] 48)).alloc (.cells #[.bool false, .int .u64 0, .int .u64 0, .int .i64 0, .int .i64 0, .string ⟨#[]⟩, .string ⟨#[]⟩, .bool false, .int .i64 0, .slice none 0 0, .slice none 0 0, .slice none 0 0, .int .i64 0, .int .i64 0, .string ⟨#[]⟩, .int .u64 0, .slice none 0 0, .slice none 0 0, .slice none 0 0, .slice none 0 0, .int .i64 0, .string ⟨#[]⟩, .string ⟨#[]⟩, .int .u64 0, .int .i64 0] 45) := ⟨_, rfl⟩
  rw [← hW0] at hx1 hx2 hx3
  have HW0 := Lib.hid hW0
  have HX1 := Lib.hid hx1
  have HX2 := Lib.hid hx2
  have HX3 := Lib.hid hx3
  have HM := Lib.hid (h.below hx3)
  have c0 := HM.out.c0
  obtain ⟨fz, d0, d1, d2, d3, d4, d5, d6, d7, d8, d9, d10, d11, d12, d13, d14, d15, d16, d17, d18, d19, d20, d21, d22, d23, d24, d25⟩ := cells26 hx1
  clear hW0 hx1 hx2 hx3 h fz d4 d5 d6 d7 d8 d9 d10 d11 d12 d13 d14 d15 d16 d17 d18 d19 d20 d21 d22 d23 d24 d25
  go_enter Try.func35, Try.ntmps35
  go_upto_region 1 with fail
  rw [← HW0.out]
  clear HW0
  obtain hk | hk | hk | hk | hk | hk | hk | hk : a.k = 1 ∨ a.k = 2 ∨ a.k = 3 ∨ a.k = 4 ∨ a.k = 5 ∨ a.k = 6 ∨ a.k = 7 ∨ (a.k < 1 ∨ 7 < a.k) := by omega
  · rw [hk] at d0
    clear hk
    have c0' : ∀ p : Later W0, p.w.cell? ⟨o, 0, none⟩ = some (.pointer none) := fun p => (HM.out.below p.h).c0
    have d1' : ∀ p : Later W0, p.w.cell? ⟨w.heap.size, 1, none⟩ = some (.int .i64 a.at_) := fun p => (cells26 (HX1.out.below p.h)).2.2.1
    have HLD : Hid (∀ p : Later W0, Calls Try.prog 36 #[.pointer none, .int .i64 a.at_] p.w fun e w' => e = .returned (.tuple #[.int .u64 0, .int .u64 0, .bool false]) ∧ Below p.w.heap.size p.w w') := Lib.hid (fun q => (load_nil a.at_ q.w).mono (by
      rintro e w' ⟨rfl, rfl⟩
      exact ⟨rfl, Below.refl _ _⟩))
    go_upto_region 3 with fail
    refine wp_region_later (by kernel_rfl) (by kernel_rfl) ?_
    repeat (quiet_step ((go_at_call 36; with_reducible exact later_of (HLD.out _))))
    refine wpQuiet_nil ?_
    intro _ hw'
    obtain ⟨⟨wq, hwq⟩, hw'⟩ := hw'
    dsimp only at hw'
    rw [hw']
    have HXR := Lib.hid (HX2.out.below (w' := wq) hwq)
    have HBR := Lib.hid (HX3.out.trans (hwq.mono HX3.out.size))
    clear c0 d0 d1 d2 d3 c0' d1' HLD hwq hw'
    go_wp2_with (refine wpList_store_blk rfl 45 _ _ rfl (w.heap.size + 1) 45 _ [.bool false, .int .u64 0, .int .u64 0, .int .i64 0, .int .i64 0, .string ⟨#[]⟩, .string ⟨#[]⟩, .bool false, .int .i64 0, .slice none 0 0, .slice none 0 0, .slice none 0 0, .int .i64 0, .int .i64 0, .string ⟨#[]⟩, .int .u64 0, .slice none 0 0, .slice none 0 0, .slice none 0 0, .slice none 0 0, .int .i64 0, .string ⟨#[]⟩, .string ⟨#[]⟩, .int .u64 0, .int .i64 0] rfl rfl HXR.out rfl szReply (by simp [Value.oneCell']) ?_; intro W hW1 hW2)
    refine bodyPost_ret (ret_reply rfl rfl hW1.out rfl) rfl ?_
    exact ⟨rfl, HBR.out.trans (keep_to hW2.out (Nat.le_succ _) HBR.out.size)⟩
  · rw [hk] at d0
    clear hk
    have HST := Lib.hid (fun W => store_out (.pointer none) 0 a.at_ a.word W (cLen_nil W) (by omega))
    have HWR := Lib.hid (fun W (hb : Below W0.heap.size W0 W) => written_no o 0 0 a.at_ (.pointer none) bs rs W (HM.out.below hb))
    have HS : Hid (∀ V, Below W0.heap.size W0 V → (V.cell? ⟨w.heap.size, 1, none⟩ = some (.int .i64 a.at_) ∧ V.cell? ⟨w.heap.size, 3, none⟩ = some (.int .u64 (a.word : Nat)) ∧ V.cell? ⟨o, 0, none⟩ = some (.pointer none))) := Lib.hid (fun V hb => by
      obtain ⟨_, e0, e1, e2, e3, _⟩ := cells26 (HX1.out.below hb)
      have e4 := (HM.out.below hb).c0
      exact ⟨e1, e3, e4⟩)
    have HS0 := Lib.hid (HS.out W0.drew (Below.refl _ _).drew)
    clear c0 d1 d2 d3
    go_upto_region 6 with fail
    refine wp_region_till (fun V => V.cell? ⟨w.heap.size, 1, none⟩ = some (.int .i64 a.at_) ∧ V.cell? ⟨w.heap.size, 3, none⟩ = some (.int .u64 (a.word : Nat)) ∧ V.cell? ⟨o, 0, none⟩ = some (.pointer none)) 13 (by rfl) ?_
    refine wpAnyS_take 0 (some 31) [13] rfl rfl (by kernel_rfl) (by kernel_rfl) (by kernel_rfl) (by kernel_rfl) (by kernel_rfl) (by kernel_rfl) (by kernel_rfl) (fun _ _ _ h => h) (by rfl) (by intro V hV9; obtain ⟨y1, y2, y3⟩ := hV9; go_simp; (first | done | (with_reducible rfl))) HS0.out ?_
    simp only [Act.put, List.setIfInBounds_toArray, List.set_cons_zero, List.set_cons_succ]
    refine wpAnyS_take 1 (some 32) [13] rfl rfl (by kernel_rfl) (by kernel_rfl) (by kernel_rfl) (by kernel_rfl) (by kernel_rfl) (by kernel_rfl) (by kernel_rfl) (fun _ _ _ h => h) (by rfl) (by intro V hV9; obtain ⟨y1, y2, y3⟩ := hV9; go_simp; (first | done | (with_reducible rfl))) HS0.out ?_
    simp only [Act.put, List.setIfInBounds_toArray, List.set_cons_zero, List.set_cons_succ]
    refine wpAnyS_take 2 (some 33) [13] rfl rfl (by kernel_rfl) (by kernel_rfl) (by kernel_rfl) (by kernel_rfl) (by kernel_rfl) (by kernel_rfl) (by kernel_rfl) (fun _ _ _ h => h) (by rfl) (by intro V hV9; obtain ⟨y1, y2, y3⟩ := hV9; go_simp; (first | done | (with_reducible rfl))) HS0.out ?_
    simp only [Act.put, List.setIfInBounds_toArray, List.set_cons_zero, List.set_cons_succ]
    refine wpAnyS_take 3 (some 34) [13] rfl rfl (by kernel_rfl) (by kernel_rfl) (by kernel_rfl) (by kernel_rfl) (by kernel_rfl) (by kernel_rfl) (by kernel_rfl) (fun _ _ _ h => h) (by rfl) (by intro V hV9; obtain ⟨y1, y2, y3⟩ := hV9; go_simp; (first | done | (with_reducible rfl))) HS0.out ?_
    simp only [Act.put, List.setIfInBounds_toArray, List.set_cons_zero, List.set_cons_succ]
    refine wpAnyS_take 4 (some 35) [13] rfl rfl (by kernel_rfl) (by kernel_rfl) (by kernel_rfl) (by kernel_rfl) (by kernel_rfl) (by kernel_rfl) (by kernel_rfl) (fun _ _ _ h => h) (by rfl) (by intro V hV9; obtain ⟨y1, y2, y3⟩ := hV9; go_simp; (first | done | (with_reducible rfl))) HS0.out ?_
    simp only [Act.put, List.setIfInBounds_toArray, List.set_cons_zero, List.set_cons_succ]
    refine wpAnyS_take 5 (some 36) [13] rfl rfl (by kernel_rfl) (by kernel_rfl) (by kernel_rfl) (by kernel_rfl) (by kernel_rfl) (by kernel_rfl) (by kernel_rfl) (fun _ _ _ h => h) (by rfl) (by intro V hV9; obtain ⟨y1, y2, y3⟩ := hV9; go_simp; (first | done | (with_reducible rfl))) HS0.out ?_
    simp only [Act.put, List.setIfInBounds_toArray, List.set_cons_zero, List.set_cons_succ]
    refine wpAnyS_take 6 (some 37) [13] rfl rfl (by kernel_rfl) (by kernel_rfl) (by kernel_rfl) (by kernel_rfl) (by kernel_rfl) (by kernel_rfl) (by kernel_rfl) (fun _ _ _ h => h) (by rfl) (by intro V hV9; obtain ⟨y1, y2, y3⟩ := hV9; go_simp; (first | done | (with_reducible rfl))) HS0.out ?_
    simp only [Act.put, List.setIfInBounds_toArray, List.set_cons_zero, List.set_cons_succ]
    refine wpAnyS_take 7 (some 38) [13] rfl rfl (by kernel_rfl) (by kernel_rfl) (by kernel_rfl) (by kernel_rfl) (by kernel_rfl) (by kernel_rfl) (by kernel_rfl) (fun _ _ _ h => h) (by rfl) (by intro V hV9; obtain ⟨y1, y2, y3⟩ := hV9; go_simp; (first | done | (with_reducible rfl))) HS0.out ?_
    simp only [Act.put, List.setIfInBounds_toArray, List.set_cons_zero, List.set_cons_succ]
    refine wpAnyS_take 8 (some 39) [13] rfl rfl (by kernel_rfl) (by kernel_rfl) (by kernel_rfl) (by kernel_rfl) (by kernel_rfl) (by kernel_rfl) (by kernel_rfl) (fun _ _ _ h => h) (by rfl) (by intro V hV9; obtain ⟨y1, y2, y3⟩ := hV9; go_simp; (first | done | (with_reducible rfl))) HS0.out ?_
    simp only [Act.put, List.setIfInBounds_toArray, List.set_cons_zero, List.set_cons_succ]
    refine wpAnyS_take 9 (some 40) [13] rfl rfl (by kernel_rfl) (by kernel_rfl) (by kernel_rfl) (by kernel_rfl) (by kernel_rfl) (by kernel_rfl) (by kernel_rfl) (fun _ _ _ h => h) (by rfl) (by intro V hV9; obtain ⟨y1, y2, y3⟩ := hV9; go_simp; (first | done | (with_reducible rfl))) HS0.out ?_
    simp only [Act.put, List.setIfInBounds_toArray, List.set_cons_zero, List.set_cons_succ]
    refine wpAnyS_take 10 (some 41) [13] rfl rfl (by kernel_rfl) (by kernel_rfl) (by kernel_rfl) (by kernel_rfl) (by kernel_rfl) (by kernel_rfl) (by kernel_rfl) (fun _ _ _ h => h) (by rfl) (by intro V hV9; obtain ⟨y1, y2, y3⟩ := hV9; go_simp; (first | done | (with_reducible rfl))) HS0.out ?_
    simp only [Act.put, List.setIfInBounds_toArray, List.set_cons_zero, List.set_cons_succ]
    refine wpAnyS_ready [11] (by kernel_rfl) (by simp) ?_
    refine AllReadyS.cons rfl (fun K9 hK => ?_) AllReadyS.nil
    go_simp
    go_at_call 57
    refine (HST.out _).mono ?_
    rintro e w2 ⟨rfl, hw2⟩
    rw [← hw2]
    clear hw2
    refine hK.out _ _ (fun _ => HS0.out) ?_
    clear hK K9
    refine wpAnyS_ready [12] (by kernel_rfl) (by simp) ?_
    refine AllReadyS.cons rfl (fun K9 hK => ?_) AllReadyS.nil
    go_simp
    go_at_call 56
    refine (HWR.out _ (Below.refl _ _).drew).mono ?_
    rintro e w3 ⟨rfl, hb3⟩
    have hb4 : Below W0.heap.size W0 w3 := (Below.refl _ _).drew.trans hb3
    have HXR := Lib.hid (HX2.out.below (w' := w3) hb4)
    have HBR := Lib.hid (HX3.out.trans (hb4.mono HX3.out.size))
    have HS3 := Lib.hid (HS.out w3 hb4)
    clear hb3 hb4
    refine hK.out _ _ (fun _ => HS3.out) ?_
    clear hK K9
    refine wpAnyS_ready [13] (by kernel_rfl) (by simp) ?_
    refine AllReadyS.cons rfl (fun K9 hK => ?_) AllReadyS.nil
    refine step_store_blk rfl 45 (.tmp 4) (.tmp 43) rfl (w.heap.size + 1) 45 _ [.bool false, .int .u64 0, .int .u64 0, .int .i64 0, .int .i64 0, .string ⟨#[]⟩, .string ⟨#[]⟩, .bool false, .int .i64 0, .slice none 0 0, .slice none 0 0, .slice none 0 0, .int .i64 0, .int .i64 0, .string ⟨#[]⟩, .int .u64 0, .slice none 0 0, .slice none 0 0, .slice none 0 0, .slice none 0 0, .int .i64 0, .string ⟨#[]⟩, .string ⟨#[]⟩, .int .u64 0, .int .i64 0] rfl rfl HXR.out rfl szReply (by simp [Value.oneCell']) ?_
    intro W hW1 hW2
    refine hK.out _ _ (fun h => absurd h (by decide)) ?_
    clear hK K9
    refine wpAnyS_done (by kernel_rfl) ?_ _
    go_wp2
    refine bodyPost_ret (ret_reply rfl rfl hW1.out rfl) rfl ?_
    exact ⟨rfl, HBR.out.trans (keep_to hW2.out (Nat.le_succ _) HBR.out.size)⟩
  · rw [hk] at d0
    clear hk
    have HST := Lib.hid (fun W => cas_out (.pointer none) 0 a.at_ a.ver a.word W (cLen_nil W) (by omega))
    have HWR := Lib.hid (fun W (hb : Below W0.heap.size W0 W) => written_no o 0 0 a.at_ (.pointer none) bs rs W (HM.out.below hb))
    have HS : Hid (∀ V, Below W0.heap.size W0 V → (V.cell? ⟨w.heap.size, 1, none⟩ = some (.int .i64 a.at_) ∧ V.cell? ⟨w.heap.size, 2, none⟩ = some (.int .u64 (a.ver : Nat)) ∧ V.cell? ⟨w.heap.size, 3, none⟩ = some (.int .u64 (a.word : Nat)) ∧ V.cell? ⟨o, 0, none⟩ = some (.pointer none))) := Lib.hid (fun V hb => by
      obtain ⟨_, e0, e1, e2, e3, _⟩ := cells26 (HX1.out.below hb)
      have e4 := (HM.out.below hb).c0
      exact ⟨e1, e2, e3, e4⟩)
    have HS0 := Lib.hid (HS.out W0.drew (Below.refl _ _).drew)
    clear c0 d1 d2 d3
    go_upto_region 8 with fail
    refine wp_region_till (fun V => V.cell? ⟨w.heap.size, 1, none⟩ = some (.int .i64 a.at_) ∧ V.cell? ⟨w.heap.size, 2, none⟩ = some (.int .u64 (a.ver : Nat)) ∧ V.cell? ⟨w.heap.size, 3, none⟩ = some (.int .u64 (a.word : Nat)) ∧ V.cell? ⟨o, 0, none⟩ = some (.pointer none)) 15 (by rfl) ?_
    refine wpAnyS_take 0 (some 46) [15] rfl rfl (by kernel_rfl) (by kernel_rfl) (by kernel_rfl) (by kernel_rfl) (by kernel_rfl) (by kernel_rfl) (by kernel_rfl) (fun _ _ _ h => h) (by rfl) (by intro V hV9; obtain ⟨y1, y2, y3, y4⟩ := hV9; go_simp; (first | done | (with_reducible rfl))) HS0.out ?_
    simp only [Act.put, List.setIfInBounds_toArray, List.set_cons_zero, List.set_cons_succ]
    refine wpAnyS_take 1 (some 47) [15] rfl rfl (by kernel_rfl) (by kernel_rfl) (by kernel_rfl) (by kernel_rfl) (by kernel_rfl) (by kernel_rfl) (by kernel_rfl) (fun _ _ _ h => h) (by rfl) (by intro V hV9; obtain ⟨y1, y2, y3, y4⟩ := hV9; go_simp; (first | done | (with_reducible rfl))) HS0.out ?_
    simp only [Act.put, List.setIfInBounds_toArray, List.set_cons_zero, List.set_cons_succ]
    refine wpAnyS_take 2 (some 48) [15] rfl rfl (by kernel_rfl) (by kernel_rfl) (by kernel_rfl) (by kernel_rfl) (by kernel_rfl) (by kernel_rfl) (by kernel_rfl) (fun _ _ _ h => h) (by rfl) (by intro V hV9; obtain ⟨y1, y2, y3, y4⟩ := hV9; go_simp; (first | done | (with_reducible rfl))) HS0.out ?_
    simp only [Act.put, List.setIfInBounds_toArray, List.set_cons_zero, List.set_cons_succ]
    refine wpAnyS_take 3 (some 49) [15] rfl rfl (by kernel_rfl) (by kernel_rfl) (by kernel_rfl) (by kernel_rfl) (by kernel_rfl) (by kernel_rfl) (by kernel_rfl) (fun _ _ _ h => h) (by rfl) (by intro V hV9; obtain ⟨y1, y2, y3, y4⟩ := hV9; go_simp; (first | done | (with_reducible rfl))) HS0.out ?_
    simp only [Act.put, List.setIfInBounds_toArray, List.set_cons_zero, List.set_cons_succ]
    refine wpAnyS_take 4 (some 50) [15] rfl rfl (by kernel_rfl) (by kernel_rfl) (by kernel_rfl) (by kernel_rfl) (by kernel_rfl) (by kernel_rfl) (by kernel_rfl) (fun _ _ _ h => h) (by rfl) (by intro V hV9; obtain ⟨y1, y2, y3, y4⟩ := hV9; go_simp; (first | done | (with_reducible rfl))) HS0.out ?_
    simp only [Act.put, List.setIfInBounds_toArray, List.set_cons_zero, List.set_cons_succ]
    refine wpAnyS_take 5 (some 51) [15] rfl rfl (by kernel_rfl) (by kernel_rfl) (by kernel_rfl) (by kernel_rfl) (by kernel_rfl) (by kernel_rfl) (by kernel_rfl) (fun _ _ _ h => h) (by rfl) (by intro V hV9; obtain ⟨y1, y2, y3, y4⟩ := hV9; go_simp; (first | done | (with_reducible rfl))) HS0.out ?_
    simp only [Act.put, List.setIfInBounds_toArray, List.set_cons_zero, List.set_cons_succ]
    refine wpAnyS_take 6 (some 52) [15] rfl rfl (by kernel_rfl) (by kernel_rfl) (by kernel_rfl) (by kernel_rfl) (by kernel_rfl) (by kernel_rfl) (by kernel_rfl) (fun _ _ _ h => h) (by rfl) (by intro V hV9; obtain ⟨y1, y2, y3, y4⟩ := hV9; go_simp; (first | done | (with_reducible rfl))) HS0.out ?_
    simp only [Act.put, List.setIfInBounds_toArray, List.set_cons_zero, List.set_cons_succ]
    refine wpAnyS_take 7 (some 53) [15] rfl rfl (by kernel_rfl) (by kernel_rfl) (by kernel_rfl) (by kernel_rfl) (by kernel_rfl) (by kernel_rfl) (by kernel_rfl) (fun _ _ _ h => h) (by rfl) (by intro V hV9; obtain ⟨y1, y2, y3, y4⟩ := hV9; go_simp; (first | done | (with_reducible rfl))) HS0.out ?_
    simp only [Act.put, List.setIfInBounds_toArray, List.set_cons_zero, List.set_cons_succ]
    refine wpAnyS_take 8 (some 54) [15] rfl rfl (by kernel_rfl) (by kernel_rfl) (by kernel_rfl) (by kernel_rfl) (by kernel_rfl) (by kernel_rfl) (by kernel_rfl) (fun _ _ _ h => h) (by rfl) (by intro V hV9; obtain ⟨y1, y2, y3, y4⟩ := hV9; go_simp; (first | done | (with_reducible rfl))) HS0.out ?_
    simp only [Act.put, List.setIfInBounds_toArray, List.set_cons_zero, List.set_cons_succ]
    refine wpAnyS_take 9 (some 55) [15] rfl rfl (by kernel_rfl) (by kernel_rfl) (by kernel_rfl) (by kernel_rfl) (by kernel_rfl) (by kernel_rfl) (by kernel_rfl) (fun _ _ _ h => h) (by rfl) (by intro V hV9; obtain ⟨y1, y2, y3, y4⟩ := hV9; go_simp; (first | done | (with_reducible rfl))) HS0.out ?_
    simp only [Act.put, List.setIfInBounds_toArray, List.set_cons_zero, List.set_cons_succ]
    refine wpAnyS_take 10 (some 56) [15] rfl rfl (by kernel_rfl) (by kernel_rfl) (by kernel_rfl) (by kernel_rfl) (by kernel_rfl) (by kernel_rfl) (by kernel_rfl) (fun _ _ _ h => h) (by rfl) (by intro V hV9; obtain ⟨y1, y2, y3, y4⟩ := hV9; go_simp; (first | done | (with_reducible rfl))) HS0.out ?_
    simp only [Act.put, List.setIfInBounds_toArray, List.set_cons_zero, List.set_cons_succ]
    refine wpAnyS_take 11 (some 57) [15] rfl rfl (by kernel_rfl) (by kernel_rfl) (by kernel_rfl) (by kernel_rfl) (by kernel_rfl) (by kernel_rfl) (by kernel_rfl) (fun _ _ _ h => h) (by rfl) (by intro V hV9; obtain ⟨y1, y2, y3, y4⟩ := hV9; go_simp; (first | done | (with_reducible rfl))) HS0.out ?_
    simp only [Act.put, List.setIfInBounds_toArray, List.set_cons_zero, List.set_cons_succ]
    refine wpAnyS_take 12 (some 58) [15] rfl rfl (by kernel_rfl) (by kernel_rfl) (by kernel_rfl) (by kernel_rfl) (by kernel_rfl) (by kernel_rfl) (by kernel_rfl) (fun _ _ _ h => h) (by rfl) (by intro V hV9; obtain ⟨y1, y2, y3, y4⟩ := hV9; go_simp; (first | done | (with_reducible rfl))) HS0.out ?_
    simp only [Act.put, List.setIfInBounds_toArray, List.set_cons_zero, List.set_cons_succ]
    refine wpAnyS_ready [13] (by kernel_rfl) (by simp) ?_
    refine AllReadyS.cons rfl (fun K9 hK => ?_) AllReadyS.nil
    go_simp
    go_at_call 58
    refine (HST.out _).mono ?_
    rintro e w2 ⟨rfl, hw2⟩
    rw [← hw2]
    clear hw2
    refine hK.out _ _ (fun _ => HS0.out) ?_
    clear hK K9
    refine wpAnyS_ready [14] (by kernel_rfl) (by simp) ?_
    refine AllReadyS.cons rfl (fun K9 hK => ?_) AllReadyS.nil
    go_simp
    go_at_call 56
    refine (HWR.out _ (Below.refl _ _).drew).mono ?_
    rintro e w3 ⟨rfl, hb3⟩
    have hb4 : Below W0.heap.size W0 w3 := (Below.refl _ _).drew.trans hb3
    have HXR := Lib.hid (HX2.out.below (w' := w3) hb4)
    have HBR := Lib.hid (HX3.out.trans (hb4.mono HX3.out.size))
    have HS3 := Lib.hid (HS.out w3 hb4)
    clear hb3 hb4
    refine hK.out _ _ (fun _ => HS3.out) ?_
    clear hK K9
    refine wpAnyS_ready [15] (by kernel_rfl) (by simp) ?_
    refine AllReadyS.cons rfl (fun K9 hK => ?_) AllReadyS.nil
    refine step_store_blk rfl 45 (.tmp 4) (.tmp 60) rfl (w.heap.size + 1) 45 _ [.bool false, .int .u64 0, .int .u64 0, .int .i64 0, .int .i64 0, .string ⟨#[]⟩, .string ⟨#[]⟩, .bool false, .int .i64 0, .slice none 0 0, .slice none 0 0, .slice none 0 0, .int .i64 0, .int .i64 0, .string ⟨#[]⟩, .int .u64 0, .slice none 0 0, .slice none 0 0, .slice none 0 0, .slice none 0 0, .int .i64 0, .string ⟨#[]⟩, .string ⟨#[]⟩, .int .u64 0, .int .i64 0] rfl rfl HXR.out rfl szReply (by simp [Value.oneCell']) ?_
    intro W hW1 hW2
    refine hK.out _ _ (fun h => absurd h (by decide)) ?_
    clear hK K9
    refine wpAnyS_done (by kernel_rfl) ?_ _
    go_wp2
    refine bodyPost_ret (ret_reply rfl rfl hW1.out rfl) rfl ?_
    exact ⟨rfl, HBR.out.trans (keep_to hW2.out (Nat.le_succ _) HBR.out.size)⟩
  · rw [hk] at d0
    clear hk
    have HCB := Lib.hid (block_none o a.word bs rs hw W0 HM.out)
    go_wp2_with fail
    refine HCB.out.mono ?_
    rintro e w2 ⟨rfl, hb2⟩
    have HNB := Lib.hid (Blk.new w2 41 #[.int .i64 0, .int .i64 0, .string ⟨#[]⟩, .string ⟨#[]⟩, .bool false, .int .i64 0, .slice none 0 0, .slice none 0 0, .slice none 0 0, .int .i64 0, .int .i64 0, .string ⟨#[]⟩, .int .u64 0, .slice none 0 0, .slice none 0 0, .slice none 0 0, .slice none 0 0])
    have hal : Below W0.heap.size W0 (w2.alloc (.cells #[.int .i64 0, .int .i64 0, .string ⟨#[]⟩, .string ⟨#[]⟩, .bool false, .int .i64 0, .slice none 0 0, .slice none 0 0, .slice none 0 0, .int .i64 0, .int .i64 0, .string ⟨#[]⟩, .int .u64 0, .slice none 0 0, .slice none 0 0, .slice none 0 0, .slice none 0 0] 41)) := hb2.alloc hb2.size _
    have HAL := Lib.hid hal
    have HSZ := Lib.hid hb2.size
    clear hal hb2 HCB c0 d0 d1 d2 d3
    go_wp2_with (first
      | (refine wpList_store_blk rfl 41 _ _ rfl w2.heap.size 41 _ [.int .i64 0, .int .i64 0, .string ⟨#[]⟩, .string ⟨#[]⟩, .bool false, .int .i64 0, .slice none 0 0, .slice none 0 0, .slice none 0 0, .int .i64 0, .int .i64 0, .string ⟨#[]⟩, .int .u64 0, .slice none 0 0, .slice none 0 0, .slice none 0 0, .slice none 0 0] rfl rfl HNB.out rfl szBlock (by simp [Value.oneCell']) ?_; intro W hB1 hB2; have hb5 : Below W0.heap.size W0 W := HAL.out.trans (keep_to hB2.out HSZ.out HAL.out.size); have HXR := Lib.hid (HX2.out.below (w' := W) hb5); have HBR := Lib.hid (HX3.out.trans (hb5.mono HX3.out.size)); clear hb5)
      | (refine wpList_load_blk rfl 41 _ rfl w2.heap.size 41 [.int .i64 0, .int .i64 0, .string ⟨#[]⟩, .string ⟨#[]⟩, .bool false, .int .i64 0, .slice none 0 0, .slice none 0 0, .slice none 0 0, .int .i64 0, .int .i64 0, .string ⟨#[]⟩, .int .u64 0, .slice none 0 0, .slice none 0 0, .slice none 0 0, .slice none 0 0] _ rfl hB1.out Try.underlying41 rfl szBlock ?_)
      | (refine wpList_store_blk rfl 45 _ _ rfl (w.heap.size + 1) 45 _ [.bool false, .int .u64 0, .int .u64 0, .int .i64 0, .int .i64 0, .string ⟨#[]⟩, .string ⟨#[]⟩, .bool false, .int .i64 0, .slice none 0 0, .slice none 0 0, .slice none 0 0, .int .i64 0, .int .i64 0, .string ⟨#[]⟩, .int .u64 0, .slice none 0 0, .slice none 0 0, .slice none 0 0, .slice none 0 0, .int .i64 0, .string ⟨#[]⟩, .string ⟨#[]⟩, .int .u64 0, .int .i64 0] rfl rfl HXR.out rfl szReply (by simp [Value.oneCell']) ?_; intro W hW1 hW2))
    refine bodyPost_ret (ret_reply rfl rfl hW1.out rfl) rfl ?_
    exact ⟨rfl, HBR.out.trans (keep_to hW2.out (Nat.le_succ _) HBR.out.size)⟩
  · have HP := Lib.hid (put_no o a.word a.b _ W0 (fun W hb => place_none o a.word bs rs hw W (HM.out.below hb)) rfl)
    clear d1 d2 d3 d0
    obtain ⟨fz, d0, d1, d2, d3, d4, d5, d6, d7, d8, d9, d10, d11, d12, d13, d14, d15, d16, d17, d18, d19, d20, d21, d22, d23, d24, d25⟩ := cells26 HX1.out
    rw [hk] at d0
    clear hk fz d1 d2 d21 d22 d23 d24 d25
    go_wp2_with fail
    refine HP.out.mono ?_
    rintro e w3 ⟨rfl, hb3⟩
    clear c0 HP d0 d3 d4 d5 d6 d7 d8 d9 d10 d11 d12 d13 d14 d15 d16 d17 d18 d19 d20
    have HXR := Lib.hid (HX2.out.below (w' := w3) hb3)
    have HBR := Lib.hid (HX3.out.trans (hb3.mono HX3.out.size))
    go_wp2_with (refine wpList_store_blk rfl 45 _ _ rfl (w.heap.size + 1) 45 _ [.bool false, .int .u64 0, .int .u64 0, .int .i64 0, .int .i64 0, .string ⟨#[]⟩, .string ⟨#[]⟩, .bool false, .int .i64 0, .slice none 0 0, .slice none 0 0, .slice none 0 0, .int .i64 0, .int .i64 0, .string ⟨#[]⟩, .int .u64 0, .slice none 0 0, .slice none 0 0, .slice none 0 0, .slice none 0 0, .int .i64 0, .string ⟨#[]⟩, .string ⟨#[]⟩, .int .u64 0, .int .i64 0] rfl rfl HXR.out rfl szReply (by simp [Value.oneCell']) ?_; intro W hW1 hW2)
    refine bodyPost_ret (ret_reply rfl rfl hW1.out rfl) rfl ?_
    exact ⟨rfl, HBR.out.trans (keep_to hW2.out (Nat.le_succ _) HBR.out.size)⟩
  · rw [hk] at d0
    have HP := Lib.hid (read_no o 0 0 a.at_ _ bs rs W0 HM.out (by unfold thrB; simp))
    clear hk
    go_wp2_with fail
    refine HP.out.mono ?_
    rintro e w3 ⟨rfl, hb3⟩
    clear HP c0 d0 d1 d2 d3
    have HXR := Lib.hid (HX2.out.below (w' := w3) hb3)
    have HBR := Lib.hid (HX3.out.trans (hb3.mono HX3.out.size))
    go_wp2_with (refine wpList_store_blk rfl 45 _ _ rfl (w.heap.size + 1) 45 _ [.bool false, .int .u64 0, .int .u64 0, .int .i64 0, .int .i64 0, .string ⟨#[]⟩, .string ⟨#[]⟩, .bool false, .int .i64 0, .slice none 0 0, .slice none 0 0, .slice none 0 0, .int .i64 0, .int .i64 0, .string ⟨#[]⟩, .int .u64 0, .slice none 0 0, .slice none 0 0, .slice none 0 0, .slice none 0 0, .int .i64 0, .string ⟨#[]⟩, .string ⟨#[]⟩, .int .u64 0, .int .i64 0] rfl rfl HXR.out rfl szReply (by simp [Value.oneCell']) ?_; intro W hW1 hW2)
    refine bodyPost_ret (ret_reply rfl rfl hW1.out rfl) rfl ?_
    exact ⟨rfl, HBR.out.trans (keep_to hW2.out (Nat.le_succ _) HBR.out.size)⟩
  · have HP := Lib.hid (write_no o 0 0 a.at_ a.o _ _ bs rs W0 HM.out (by unfold thrB; simp) rfl)
    clear d1 d2 d3 d0
    obtain ⟨fz, d0, d1, d2, d3, d4, d5, d6, d7, d8, d9, d10, d11, d12, d13, d14, d15, d16, d17, d18, d19, d20, d21, d22, d23, d24, d25⟩ := cells26 HX1.out
    rw [hk] at d0
    clear hk fz d2 d3 d4 d5 d6 d7 d8 d9 d10 d11 d12 d13 d14 d15 d16 d17 d18 d19 d20
    go_wp2_with fail
    refine HP.out.mono ?_
    rintro e w3 ⟨rfl, hb3⟩
    clear c0 HP d0 d1 d21 d22 d23 d24 d25
    have HXR := Lib.hid (HX2.out.below (w' := w3) hb3)
    have HBR := Lib.hid (HX3.out.trans (hb3.mono HX3.out.size))
    go_wp2_with (refine wpList_store_blk rfl 45 _ _ rfl (w.heap.size + 1) 45 _ [.bool false, .int .u64 0, .int .u64 0, .int .i64 0, .int .i64 0, .string ⟨#[]⟩, .string ⟨#[]⟩, .bool false, .int .i64 0, .slice none 0 0, .slice none 0 0, .slice none 0 0, .int .i64 0, .int .i64 0, .string ⟨#[]⟩, .int .u64 0, .slice none 0 0, .slice none 0 0, .slice none 0 0, .slice none 0 0, .int .i64 0, .string ⟨#[]⟩, .string ⟨#[]⟩, .int .u64 0, .int .i64 0] rfl rfl HXR.out rfl szReply (by simp [Value.oneCell']) ?_; intro W hW1 hW2)
    refine bodyPost_ret (ret_reply rfl rfl hW1.out rfl) rfl ?_
    exact ⟨rfl, HBR.out.trans (keep_to hW2.out (Nat.le_succ _) HBR.out.size)⟩
  · have n1 : ¬ a.k = 1 := by omega
    have n2 : ¬ a.k = 2 := by omega
    have n3 : ¬ a.k = 3 := by omega
    have n4 : ¬ a.k = 4 := by omega
    have n5 : ¬ a.k = 5 := by omega
    have n6 : ¬ a.k = 6 := by omega
    have n7 : ¬ a.k = 7 := by omega
    have HXR := HX2
    have HBR := HX3
    clear hk c0 d1 d2 d3
    go_wp2_with (refine wpList_store_blk rfl 45 _ _ rfl (w.heap.size + 1) 45 _ [.bool false, .int .u64 0, .int .u64 0, .int .i64 0, .int .i64 0, .string ⟨#[]⟩, .string ⟨#[]⟩, .bool false, .int .i64 0, .slice none 0 0, .slice none 0 0, .slice none 0 0, .int .i64 0, .int .i64 0, .string ⟨#[]⟩, .int .u64 0, .slice none 0 0, .slice none 0 0, .slice none 0 0, .slice none 0 0, .int .i64 0, .string ⟨#[]⟩, .string ⟨#[]⟩, .int .u64 0, .int .i64 0] rfl rfl HXR.out rfl szReply (by simp [Value.oneCell']) ?_; intro W hW1 hW2)
    refine bodyPost_ret (ret_reply rfl rfl hW1.out rfl) rfl ?_
    exact ⟨rfl, HBR.out.trans (keep_to hW2.out (Nat.le_succ _) HBR.out.size)⟩
end Go.Proofs.Ytkdjcikilabehaa
