/- The law AnswerTells: whether any answer is sound, two are the same, its code's name, and what a pair answers, are the document's: it returns true for all answers. Condition: the row's own (the listed table); its card ties it to the program's text. -/
import Derived.Test.YtgckgagnodkhjaaRRRRDoorAnsTellsW
import Derived.Test.YtgckgagnodkhjaaRRRRDoorAnsBaseP
import Derived.Test.YtgckgagnodkhjaaRRRRDoorCards
import Derived.Test.YtgckgagnodkhjaaRRRRDoorTie
namespace Go.Proofs.YtgckgagnodkhjaaRRRRDoor
open Go.ChangeShapes Go.WideShapes Go.ChangeAt Go.RowKit Go.ChangeMaps

set_option maxRecDepth 100000 in
theorem answerTells_lifted (os : Os) (started : os.Started) (H : Type) (enc : TypeId × Value → H) :
    ReturnsInHanded {} Tryd.checked os 3 .any (fun w args => (Rows.answerTellsSpec.pre enc Tryd.prog Tryd.f3 Rows.answerTellsRow.domain false w args ∧ laidMetH Tryd.prog laid17 w) ∧ sizedMet enc Tryd.prog Tryd.f3 (OpenSpec.ofChange Rows.answerTellsSpec) false w args)
      (Rows.answerTellsSpec.post enc Tryd.prog Tryd.f3 false true false false) := by
  refine returnsInHanded_of_change_and (C := Tryd.checked) (X := fun w _ => laidMetH Tryd.prog laid17 w) (fun _ _ _ hh h => h.of_heap hh) Tryd.ownS started (by kernel_rfl) Tryd.func3
    (ChangeSpec.witness_shaped (enc := enc) (C := Tryd.checked) (os := os) (X := fun w _ => laidMetH Tryd.prog laid17 w) false (World.laidAll Tryd.prog os laid17) #[.agg #[.int .i64 0, .string ⟨#[]⟩, .int .u64 0, .slice none 0 0], .agg #[.int .i64 0, .string ⟨#[]⟩, .int .u64 0, .slice none 0 0], .bool false] 8 (World.laidAll_os _ _ _)
      (World.shaped_of_ZipB (by kernel_rfl) (by kernel_rfl)) (by kernel_rfl) (by kernel_rfl) (by kernel_rfl)
      (by rw [MakeChecks.laidMetH_plain _ _ _ (by kernel_rfl)]; exact laidMet_laidAll _ (by kernel_rfl) (by kernel_rfl))) ?_
  intro W base args ds gs before hval0 hW _ _ hL _
  have hval : ∀ (j : Nat) t v, Tryd.f3.params[j]? = some t → args[j]? = some v → Value.okWide Tryd.prog W .any base t v := hval0
  have hW' := hW
  obtain ⟨p, q, hA0, hV, rfl, _, _⟩ := hW
  have hA : DataW.TrodAll enc Tryd.prog W 0 (fun _ => true) true Tryd.f3.params.toList args.toList ds p := hA0
  rw [Tryd.params3] at hA hval
  obtain ⟨v0, v1, v2, d0, d1, d2, p0, p1, p2, rfl, rfl, rfl, h0, h1, h2⟩ := trodAll_three hA
  obtain ⟨rfl, rfl⟩ := trodVars_none hV
  obtain ⟨l0, rfl, _⟩ := okWide_struct Tryd.underlying25 (hval 0 25 v0 rfl rfl)
  obtain ⟨l1, rfl, _⟩ := okWide_struct Tryd.underlying25 (hval 1 25 v1 rfl rfl)
  obtain ⟨ok, rfl, rfl, rfl⟩ := open_bool Tryd.underlying4 (hval 2 4 v2 rfl rfl) h2
  have h0k := h0
  have h1k := h1
  obtain ⟨f0, hf0⟩ := h0
  obtain ⟨f1, hf1⟩ := h1
  clear hA0 hval0
  simp only [List.append_nil] at hW'
  have hlt : ∀ x ∈ p0 ++ p1, x.block < W.heap.size := fun x hx => by simpa using hW'.lt x hx
  have hlt0 : ∀ x ∈ p0, x.block < W.heap.size := fun x hx => hlt x (List.mem_append_left _ hx)
  have hlt1 : ∀ x ∈ p1, x.block < W.heap.size := fun x hx => hlt x (List.mem_append_right _ hx)
  obtain ⟨k, key, v, ao, n, c, ps, hcs, hv, hr, hz⟩ := ans_cells (by simpa [Value.cells] using hf0)
  obtain ⟨k2, key2, v2, ao2, m, c2, qs, hcs2, hv2, hr2, hz2⟩ := ans_cells (by simpa [Value.cells] using hf1)
  have hca : l0 = #[.int .i64 k, .string key, .int .u64 (v : Nat), .slice ao n c] := by
    apply Array.ext'
    exact hcs
  subst hca
  have hca2 : l1 = #[.int .i64 k2, .string key2, .int .u64 (v2 : Nat), .slice ao2 m c2] := by
    apply Array.ext'
    exact hcs2
  subst hca2
  refine (ansTells_any k v k2 v2 key key2 ao ao2 n c m c2 ps qs ok W hr hr2 (names_of_laid17 hL)).mono fun e W' ⟨he, hb⟩ => ?_
  subst he
  refine ⟨_, rfl, _, _, _, [], p0 ++ p1, [], hW', trodAll_mk1 (shut_bool Tryd.underlying4 _), ?_, rfl, hb.frame _, fun h => by cases h⟩
  have ht := trodAll_mk3 (Below.trod Tryd.laidOut (by kernel_rfl) (of_decide_eq_true (by kernel_rfl)) h0k hb hlt0) (Below.trod Tryd.laidOut (by kernel_rfl) (of_decide_eq_true (by kernel_rfl)) h1k hb hlt1) (shut_bool (w := W') Tryd.underlying4 ok)
  simp only [List.append_nil] at ht
  exact ht

theorem answerTells_holds : Rows.AnswerTellsSaid :=
  OpenClaim.holds_of_wide 3 Tryd.f3 rfl rfl rfl rfl rfl rfl rfl ⟨rfl, rfl, rfl, rfl, rfl⟩ rfl rfl rfl rfl rfl (by kernel_rfl) Tryd.func3 (by kernel_rfl)
    (of_decide_eq_true (by kernel_rfl)) (by unfold Func.isWrapper; rw [if_neg (by decide +kernel)]; exact ⟨rfl, rfl⟩)
    (fun os started H enc _ => answerTells_lifted os started H enc)

theorem answerTells_card : Rows.AnswerTellsCardSaid :=
  Claim7.holds_tied_plain_at .later [] [.data] true (true, "1c18adac29c5138a9d0807efb2a4cc4c399bf9403aeedf1906a30e198e756e7c") false
    answerTells_holds (fun _ h => by cases h) (by kernel_rfl) (fun _ h => by cases h) answerTells_row_tie rfl ⟨rfl, rfl⟩ (by kernel_rfl) rfl
    (fun f fn hf hfn => by
      obtain rfl : f = 3 := Option.some.inj ((show Tryd.prog.funcNamed "bower/bowerlaw17.AnswerTells" = some 3 by kernel_rfl).symm.trans hf) |>.symm
      obtain rfl : fn = Tryd.f3 := (Option.some.inj (Tryd.func3.symm.trans hfn)).symm
      exact ⟨by kernel_rfl, fun j t ht => by
        rw [Tryd.params3] at ht
        have hm : t ∈ [25, 25, 4] := by simpa using Array.mem_of_getElem? ht
        have hall : ([25, 25, 4].all fun u => !Tryd.prog.wantsStandIn u) = true := by kernel_rfl
        exact (show Tryd.prog.wantsStandIn t = false by simpa using List.all_eq_true.1 hall t hm)⟩)
    (by kernel_rfl)
end Go.Proofs.YtgckgagnodkhjaaRRRRDoor
