/- memory.New; a memory in the world. Condition: an arena, threads and a generation that can be. -/
import Derived.Test.YtkdjcikilabehaaMemNew
import Derived.Test.YtkdjcikilabehaaMemNone
namespace Go.Proofs.Ytkdjcikilabehaa
open Go.RowKit

/-- A memory in the world: its boxes, its cells, its blocks, its records. -/
structure MemAt (w : World) (p o cb cg bg rg A T : Nat) (l : List (Nat × Nat)) (B : List Bl) (R : List OpV) : Prop where
  p : Blk w p 75 #[.pointer (some ⟨o, 0, none⟩)]
  m : MBox w o A T (.pointer (some ⟨cb, 0, none⟩)) (.slice (some ⟨bg, 0, none⟩) A A) (.slice (some ⟨rg, 0, none⟩) T T)
  c : CellsAt w cb cg l
  cl : l.length = 2 * A + 5 * T + 1
  b : Blk w bg 41 (B.flatMap Bl.cells).toArray
  bl : B.length = A
  r : Blk w rg 43 (R.flatMap OpV.cells).toArray
  rl : R.length = T
  a1 : 1 ≤ A
  t1 : 1 ≤ T
section
variable {w w' : World} {p o cb cg bg rg A T : Nat} {l : List (Nat × Nat)} {B : List Bl} {R : List OpV}
theorem MemAt.below (h : MemAt w p o cb cg bg rg A T l B R) (hb : Below w.heap.size w w') : MemAt w' p o cb cg bg rg A T l B R :=
  ⟨h.p.below hb, h.m.below hb, h.c.below hb, h.cl, h.b.below hb, h.bl, h.r.below hb, h.rl, h.a1, h.t1⟩
theorem MemAt.mem (h : MemAt w p o cb cg bg rg A T l B R) : Mem w (.pointer (some ⟨p, 0, none⟩)) A T (.pointer (some ⟨cb, 0, none⟩)) (.slice (some ⟨bg, 0, none⟩) A A) (.slice (some ⟨rg, 0, none⟩) T T) := all_some w p o A T _ _ _ h.p h.m
end
def Bl.root : Bl := { Bl.zero with k := 1, la := true, nx := -1 }
theorem made_rows {α : Type} {f : α → List Value} {k : Nat} (hf : ∀ x, (f x).length = k) (hk : 0 < k) (z : α) (n : Nat) : madeCells (f z).toArray (n * k) = ((List.replicate n z).flatMap f).toArray := by
  have hl := rowc_len hf (List.replicate n z)
  rw [List.length_replicate] at hl
  apply Array.ext
  · simp [madeCells, hl]
  · intro i h1 h2
    have hi : i < n * k := by simpa [madeCells] using h1
    have hd : i / k < n := Nat.div_lt_of_lt_mul (by rw [Nat.mul_comm]; exact hi)
    have hm : i % k < k := Nat.mod_lt _ hk
    have hg := rowc_get hf (List.replicate n z) (i / k) (i % k) (by rw [List.length_replicate]; exact hd) hm
    rw [List.getElem_replicate, Nat.mul_comm, Nat.div_add_mod] at hg
    have e1 : ((List.replicate n z).flatMap f).toArray[i]'h2 = ((f z)[i % k]?).getD default := by
      rw [List.getElem_toArray, ← hg, List.getElem?_eq_getElem (by rw [hl]; exact hi)]; rfl
    rw [e1]
    simp [madeCells, hf]
theorem three_blk (w : World) (t1 t2 t3 : TypeId) (c1 c2 c3 : Array Value) : Blk (((w.alloc (.cells c1 t1)).alloc (.cells c2 t2)).alloc (.cells c3 t3)) w.heap.size t1 c1 ∧ Blk (((w.alloc (.cells c1 t1)).alloc (.cells c2 t2)).alloc (.cells c3 t3)) (w.heap.size + 1) t2 c2 ∧ Blk (((w.alloc (.cells c1 t1)).alloc (.cells c2 t2)).alloc (.cells c3 t3)) (w.heap.size + 1 + 1) t3 c3 ∧ Below w.heap.size w (((w.alloc (.cells c1 t1)).alloc (.cells c2 t2)).alloc (.cells c3 t3)) := by
  obtain ⟨h1, h2, h3⟩ := two_blk w t1 t2 c1 c2
  have h4 := one_alloc ((w.alloc (.cells c1 t1)).alloc (.cells c2 t2)) (.cells c3 t3)
  have hs : ((w.alloc (.cells c1 t1)).alloc (.cells c2 t2)).heap.size = w.heap.size + 1 + 1 := by rw [World.size_alloc, World.size_alloc]
  refine ⟨h1.below h4.2, h2.below h4.2, ?_, h3.trans (h4.2.mono h3.size)⟩
  have h5 := h4.1
  rw [hs] at h5
  exact h5
theorem infoBlock : (Try.prog.info? 41).map (fun i => (i.zero, i.size, i.bytes)) = some (some (.agg #[.int .i64 0, .int .i64 0, .string ⟨#[]⟩, .string ⟨#[]⟩, .bool false, .int .i64 0, .slice none 0 0, .slice none 0 0, .slice none 0 0, .int .i64 0, .int .i64 0, .string ⟨#[]⟩, .int .u64 0, .slice none 0 0, .slice none 0 0, .slice none 0 0, .slice none 0 0]), 17, 272) := by kernel_rfl
theorem infoOp : (Try.prog.info? 43).map (fun i => (i.zero, i.size, i.bytes)) = some (some (.agg #[.int .i64 0, .string ⟨#[]⟩, .string ⟨#[]⟩, .int .u64 0, .int .i64 0]), 5, 56) := by kernel_rfl
theorem empty26 (w : World) : Calls Try.prog 33 #[] w fun e w' => e = .returned (.agg #[.int .i64 0, .string ⟨#[]⟩, .string ⟨#[]⟩, .bool true, .int .i64 (-1), .slice none 0 0, .slice none 0 0, .slice none 0 0]) ∧ Below w.heap.size w w' := by
  go_enter Try.func33, Try.ntmps33
  go_wp2
  refine bodyPost_ret (v := .agg #[.int .i64 0, .string ⟨#[]⟩, .string ⟨#[]⟩, .bool true, .int .i64 (-1), .slice none 0 0, .slice none 0 0, .slice none 0 0]) (by simp [results, Try.results33, go_sem, *]) rfl ?_
  exact ⟨rfl, (one_alloc w _).2⟩
theorem words_fit (A T g : Nat) : ∀ x ∈ wordsL A T g, x < 18446744073709551616 := by
  have hu : ∀ n i, ∀ x ∈ usesL n A g i, x < 18446744073709551616 := fun n i => by
    induction i with
    | zero => intro x hx; rw [List.eq_of_mem_replicate hx]; decide
    | succ i ih =>
      intro x hx
      rcases List.mem_or_eq_of_mem_set hx with hx | rfl
      · exact ih x hx
      · exact useW_lt _ _
  intro x hx
  rcases List.mem_or_eq_of_mem_set hx with hx | rfl
  · rcases List.mem_or_eq_of_mem_set hx with hx | rfl
    · exact hu _ _ x hx
    · exact useW_lt _ _
  · exact packW_lt _ _
set_option maxHeartbeats 1000000 in
set_option maxRecDepth 100000 in
theorem new_any26 (A T g : Nat) (h1 : 1 ≤ A) (h2 : A ≤ 8192) (h3 : 1 ≤ T) (h4 : T ≤ 16) (h5 : g < 4294967295) (w : World) :
    Calls Try.prog 9 #[.int .i64 A, .int .i64 T, .int .u64 g] w fun e w' => ∃ p o cb cg bg rg, e = .returned (.pointer (some ⟨p, 0, none⟩)) ∧ MemAt w' p o cb cg bg rg A T (ofC (wordsL A T g)) ((List.replicate A Bl.zero).set 0 Bl.root) (List.replicate T OpV.zero) ∧ Below w.heap.size w w' ∧ w.heap.size ≤ cg ∧ w.heap.size ≤ bg ∧ w.heap.size ≤ rg := by
  obtain ⟨i0, hi, hz0, hz1, hz2⟩ := info_parts infoBlock
  obtain ⟨i1, hj, hy0, hy1, hy2⟩ := info_parts infoOp
  have hmk := fun W => run_make_rowN (P := Try.prog) 54 41 i0 _ Try.underlying54 hi hz0 .i64 .i64 A A (Nat.le_refl _) (by rw [hz2]; omega) (by omega) W
  have hmo := fun W => run_make_rowN (P := Try.prog) 55 43 i1 _ Try.underlying55 hj hy0 .i64 .i64 T T (Nat.le_refl _) (by rw [hy2]; omega) (by omega) W
  have e1 : (Value.agg #[.int .i64 0, .int .i64 0, .string ⟨#[]⟩, .string ⟨#[]⟩, .bool false, .int .i64 0, .slice none 0 0, .slice none 0 0, .slice none 0 0, .int .i64 0, .int .i64 0, .string ⟨#[]⟩, .int .u64 0, .slice none 0 0, .slice none 0 0, .slice none 0 0, .slice none 0 0]).cells = (Bl.cells Bl.zero).toArray := rfl
  have e2 : (Value.agg #[.int .i64 0, .string ⟨#[]⟩, .string ⟨#[]⟩, .int .u64 0, .int .i64 0]).cells = (OpV.cells OpV.zero).toArray := rfl
  rw [hz1, e1, made_rows bl_len (by decide)] at hmk
  rw [hy1, e2, made_rows op_len (by decide)] at hmo
  have HRL := Lib.hid (show (List.replicate A Bl.zero).length = A ∧ (List.replicate T OpV.zero).length = T from ⟨List.length_replicate, List.length_replicate⟩)
  generalize List.replicate A Bl.zero = B0 at *
  generalize List.replicate T OpV.zero = R0 at *
  generalize hbc : (B0.flatMap Bl.cells).toArray = bc at *
  generalize hrc : (R0.flatMap OpV.cells).toArray = rc at *
  have HBC := Lib.hid hbc
  have HRC := Lib.hid hrc
  have g1 : ¬ (A : Int) < 1 := by omega
  have g2 : ¬ (8192 : Int) < A := by omega
  have g3 : ¬ (T : Int) < 1 := by omega
  have g4 : ¬ (16 : Int) < T := by omega
  have g5 : ¬ (4294967295 : Int) ≤ g := by omega
  clear hi hz0 hz1 hz2 hj hy0 hy1 hy2 e1 e2 hbc hrc
  go_enter Try.func9, Try.ntmps9
  go_upto_region 3 with fail
  clear g1 g2 g3 g4 g5
  go_cut [7] (fun s7 wx => ∃ o bg rg, s7 = .pointer (some ⟨o, 0, none⟩) ∧ Hid (Blk wx o 80 #[.pointer none, .int .i64 A, .int .i64 T, .slice (some ⟨bg, 0, none⟩) A A, .slice (some ⟨rg, 0, none⟩) T T] ∧ Blk wx bg 41 bc ∧ Blk wx rg 43 rc ∧ Below w.heap.size w wx ∧ w.heap.size ≤ o ∧ w.heap.size ≤ bg ∧ w.heap.size ≤ rg))
  case first =>
    rename_i J1 K1 hJ1 hK1
    go_region
    all_goals
      refine hK1 _ _ (Met.intro (hJ1 _ _ ?_))
      (repeat apply Exists.intro)
      refine ⟨?_, rfl⟩
    · exact ⟨_, _, _, rfl, Lib.hid (by
        obtain ⟨q1, q2, q3, q4⟩ := three_blk w 41 43 80 bc rc #[.pointer none, .int .i64 A, .int .i64 T, .slice (some ⟨w.heap.size, 0, none⟩) A A, .slice (some ⟨w.heap.size + 1, 0, none⟩) T T]
        exact ⟨q3.below (Below.refl _ _).drew, q1.below (Below.refl _ _).drew, q2.below (Below.refl _ _).drew, q4.drew, by omega, by omega, by omega⟩)⟩
    · exact ⟨_, _, _, rfl, Lib.hid (by
        obtain ⟨q1, q2, q3, q4⟩ := three_blk w 43 41 80 rc bc #[.pointer none, .int .i64 A, .int .i64 T, .slice (some ⟨w.heap.size + 1, 0, none⟩) A A, .slice (some ⟨w.heap.size, 0, none⟩) T T]
        exact ⟨q3.below (Below.refl _ _).drew, q2.below (Below.refl _ _).drew, q1.below (Below.refl _ _).drew, q4.drew, by omega, by omega, by omega⟩)⟩
  case rest =>
    obtain ⟨o, bg, rg, rfl, hc⟩ := hcut
    have HC := Lib.hid hc.out
    clear hmk hmo hc
    have HM := Lib.hid (⟨HC.out.1, h2, h4⟩ : MBox wc o A T (.pointer none) (.slice (some ⟨bg, 0, none⟩) A A) (.slice (some ⟨rg, 0, none⟩) T T))
    have HWD := Lib.hid (words_any o A T g _ _ _ h5 h1 wc HM.out)
    go_wp2_with fail
    refine HWD.out.mono ?_
    rintro e w2 ⟨gw, rfl, hbw, hgw, hb2⟩
    have hwl : (wordsL A T g).length = 2 * A + 5 * T + 1 := by rw [wordsL_len, beg7 h1]
    have HOF := Lib.hid (of_any gw (wordsL A T g).length (wordsL A T g) (by omega) (words_fit A T g) w2 hbw)
    have HB2 := Lib.hid hb2
    clear hbw hgw hb2 HWD hwl
    go_wp2_with fail
    refine HOF.out.mono ?_
    rintro e w3 ⟨cb, cg, rfl, hca, hcb, hcg, hb3⟩
    have hb3' := HB2.out.trans (hb3.mono HB2.out.size)
    have hbx := HC.out.1.below hb3'
    have c0 : w3.cell? ⟨o, 0, none⟩ = some (.pointer none) := (hbx.cell 0).trans rfl
    have f0 := hbx.frozen 0
    have hset := hbx.set_ 0 (.pointer (some ⟨cb, 0, none⟩))
    have hkp : Keep (fun k => k = o) w3 (w3.setCell ⟨o, 0, none⟩ (.pointer (some ⟨cb, 0, none⟩))) := (Keep.refl (fun k => k = o) w3).set (p := ⟨o, 0, none⟩) (fun _ => rfl) _
    obtain ⟨W4, hW4⟩ : ∃ W, W = w3.setCell ⟨o, 0, none⟩ (.pointer (some ⟨cb, 0, none⟩)) := ⟨_, rfl⟩
    rw [← hW4] at hset hkp
    have HW4 := Lib.hid hW4
    have HO := Lib.hid (show Blk W4 o 80 #[.pointer (some ⟨cb, 0, none⟩), .int .i64 A, .int .i64 T, .slice (some ⟨bg, 0, none⟩) A A, .slice (some ⟨rg, 0, none⟩) T T] from by simpa only [List.setIfInBounds_toArray, List.set_cons_zero] using hset)
    have hco : ¬ cb = o := fun e => hca.blk.ne_ (show Blk w3 o _ _ from hbx) (by decide) e
    have hgo : ¬ cg = o := fun e => hca.row.ne_ (show Blk w3 o _ _ from hbx) (by decide) e
    have HCA := Lib.hid (⟨hca.blk.keep hkp hco, hca.row.keep hkp hgo, hca.len, hca.fit⟩ : CellsAt W4 cb cg (ofC (wordsL A T g)))
    have HBG := Lib.hid ((HC.out.2.1.below hb3').keep hkp (fun e => HC.out.2.1.ne_ HC.out.1 (by decide) e))
    have HRG := Lib.hid ((HC.out.2.2.1.below hb3').keep hkp (fun e => HC.out.2.2.1.ne_ HC.out.1 (by decide) e))
    have hbW : Below w.heap.size w W4 := (HC.out.2.2.2.1.trans (hb3'.mono HC.out.2.2.2.1.size)).trans (keep_to hkp HC.out.2.2.2.2.1 (HC.out.2.2.2.1.trans (hb3'.mono HC.out.2.2.2.1.size)).size)
    have HBW := Lib.hid hbW
    have hsz : w.heap.size ≤ wc.heap.size := HC.out.2.2.2.1.size
    have HSZ := Lib.hid (show w.heap.size ≤ cg ∧ w.heap.size ≤ bg ∧ w.heap.size ≤ rg from ⟨by have := HB2.out.size; omega, HC.out.2.2.2.2.2.1, HC.out.2.2.2.2.2.2⟩)
    have HS : Hid (∀ V, Below W4.heap.size W4 V → V.cell? ⟨o, 3, none⟩ = some (.slice (some ⟨bg, 0, none⟩) A A)) := Lib.hid (fun V hb => ((HO.out.below hb).cell 3).trans rfl)
    have HS0 := Lib.hid (HS.out W4.drew (Below.refl _ _).drew)
    have HEM := Lib.hid (fun W => empty26 W)
    clear hca hcb hcg hb3 hb3' hbx hset hkp hW4 hco hgo hbW hsz HOF HM
    go_upto_region 5 with fail
    rw [← HW4.out]
    clear HW4 c0 f0
    have g1 : 0 < A := by omega
    refine wp_region_till (fun V => V.cell? ⟨o, 3, none⟩ = some (.slice (some ⟨bg, 0, none⟩) A A)) 7 (by rfl) ?_
    refine wpAnyS_take 0 (some 41) [7] rfl rfl (by kernel_rfl) (by kernel_rfl) (by kernel_rfl) (by kernel_rfl) (by kernel_rfl) (by kernel_rfl) (by kernel_rfl) (fun _ _ _ h => h) (by rfl) (by intro V hV9; obtain y1 := hV9; go_simp; (first | done | (with_reducible rfl))) HS0.out ?_
    simp only [Act.put, List.setIfInBounds_toArray, List.set_cons_zero, List.set_cons_succ]
    refine wpAnyS_take 1 (some 42) [7] rfl rfl (by kernel_rfl) (by kernel_rfl) (by kernel_rfl) (by kernel_rfl) (by kernel_rfl) (by kernel_rfl) (by kernel_rfl) (fun _ _ _ h => h) (by rfl) (by intro V hV9; obtain y1 := hV9; go_simp; (first | done | (with_reducible rfl))) HS0.out ?_
    simp only [Act.put, List.setIfInBounds_toArray, List.set_cons_zero, List.set_cons_succ]
    refine wpAnyS_take 2 (some 43) [7] rfl rfl (by kernel_rfl) (by kernel_rfl) (by kernel_rfl) (by kernel_rfl) (by kernel_rfl) (by kernel_rfl) (by kernel_rfl) (fun _ _ _ h => h) (by rfl) (by intro V hV9; obtain y1 := hV9; go_simp; (first | done | (with_reducible rfl))) HS0.out ?_
    simp only [Act.put, List.setIfInBounds_toArray, List.set_cons_zero, List.set_cons_succ]
    refine wpAnyS_take 3 (some 44) [7] rfl rfl (by kernel_rfl) (by kernel_rfl) (by kernel_rfl) (by kernel_rfl) (by kernel_rfl) (by kernel_rfl) (by kernel_rfl) (fun _ _ _ h => h) (by rfl) (by intro V hV9; obtain y1 := hV9; go_simp; (first | done | (with_reducible rfl))) HS0.out ?_
    simp only [Act.put, List.setIfInBounds_toArray, List.set_cons_zero, List.set_cons_succ]
    refine wpAnyS_ready [4] (by kernel_rfl) (by simp) ?_
    refine AllReadyS.cons rfl (fun K9 hK => ?_) AllReadyS.nil
    go_simp
    go_at_call 33
    refine (HEM.out _).mono ?_
    rintro e w5 ⟨rfl, hb5⟩
    have hb5' : Below W4.heap.size W4 w5 := (Below.refl _ _).drew.trans hb5
    have HS5 := Lib.hid (HS.out w5 hb5')
    have HB5 := Lib.hid hb5'
    clear hb5 hb5'
    refine hK.out _ _ (fun _ => HS5.out) ?_
    clear hK K9
    refine wpAnyS_take 5 (some 46) [7] rfl rfl (by kernel_rfl) (by kernel_rfl) (by kernel_rfl) (by kernel_rfl) (by kernel_rfl) (by kernel_rfl) (by kernel_rfl) (fun _ _ _ h => h) (by rfl) (by intro V hV9; obtain y1 := hV9; go_simp; (first | done | (with_reducible rfl))) HS5.out ?_
    simp only [Act.put, List.setIfInBounds_toArray, List.set_cons_zero, List.set_cons_succ]
    refine wpAnyS_take 6 (some 47) [7] rfl rfl (by kernel_rfl) (by kernel_rfl) (by kernel_rfl) (by kernel_rfl) (by kernel_rfl) (by kernel_rfl) (by kernel_rfl) (fun _ _ _ h => h) (by rfl) (by intro V hV9; obtain y1 := hV9; go_simp; (first | done | (with_reducible rfl))) HS5.out ?_
    simp only [Act.put, List.setIfInBounds_toArray, List.set_cons_zero, List.set_cons_succ]
    refine wpAnyS_ready [7] (by kernel_rfl) (by simp) ?_
    refine AllReadyS.cons rfl (fun K9 hK => ?_) AllReadyS.nil
    have HBR := Lib.hid (HBG.out.below HB5.out)
    rw [← HBC.out] at HBR
    refine step_store_row bl_len rfl 41 (.tmp 47) (.tmp 46) rfl bg 41 B0 0 (by rw [HRL.out.1]; omega) Bl.root 0 rfl rfl rfl HBR.out szBlock (bl_one _) ?_
    intro W hW1 hW2
    have HBX := Lib.hid hW1.out
    have HKX := Lib.hid hW2.out
    refine hK.out _ _ (fun h => absurd h (by decide)) ?_
    clear hK K9 hW1 hW2
    refine wpAnyS_done (by kernel_rfl) ?_ _
    have HOW := Lib.hid ((HO.out.below HB5.out).keep HKX.out (fun e => HO.out.ne_ HBG.out (by decide) e))
    have HCW := Lib.hid (⟨(HCA.out.blk.below HB5.out).keep HKX.out (fun e => HCA.out.blk.ne_ HBG.out (by decide) e), (HCA.out.row.below HB5.out).keep HKX.out (fun e => HCA.out.row.ne_ HBG.out (by decide) e), HCA.out.len, HCA.out.fit⟩ : CellsAt W cb cg (ofC (wordsL A T g)))
    have HRW := Lib.hid ((HRG.out.below HB5.out).keep HKX.out (fun e => HRG.out.ne_ HBG.out (by decide) e))
    rw [← HRC.out] at HRW
    have HBL := Lib.hid ((HBW.out.trans (HB5.out.mono HBW.out.size)).trans (keep_to HKX.out HSZ.out.2.1 (HBW.out.trans (HB5.out.mono HBW.out.size)).size))
    have HNB := Lib.hid (one_alloc W (.cells #[.pointer (some ⟨o, 0, none⟩)] 75))
    clear HC HB2 HBC HRC HO HCA HBG HRG HBW HS HS0 HEM HS5 HB5 HBR HKX
    go_wp2
    go_ret
    exact ⟨_, o, cb, cg, bg, rg, rfl, ⟨HNB.out.1, ⟨HOW.out.below HNB.out.2, h2, h4⟩, HCW.out.below HNB.out.2, by unfold ofC; rw [List.length_map, wordsL_len, beg7 h1], HBX.out.below HNB.out.2, by rw [List.length_set]; exact HRL.out.1, HRW.out.below HNB.out.2, HRL.out.2, h1, h3⟩, HBL.out.trans (HNB.out.2.mono HBL.out.size), HSZ.out⟩
end Go.Proofs.Ytkdjcikilabehaa
