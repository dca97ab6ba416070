/- The law NodeSame: which two nodes have the same is as the document says, and a clone has the same and shares no memory: it returns true for every two nodes, and both read behind the call as they read before. No condition. -/
import Derived.Test.YtlbafmmeglafhaaNodeSame
import Derived.Test.YtlbafmmeglafhaaNodeRead
namespace Go.Proofs.Ytlbafmmeglafhaa
open Go.ChangeShapes Go.WideShapes Go.ChangeAt Go.RowKit Go.ChangeMaps

set_option maxRecDepth 100000 in
theorem nodeSame_lifted (os : Os) (started : os.Started) (H : Type) (enc : TypeId × Value → H) :
    ReturnsInHanded {} Try.checked os 7 .any (Rows.nodeSameSpec.pre6 enc Try.prog Try.f7 Rows.nodeSameRow.domain false) (Rows.nodeSameSpec.post enc Try.prog Try.f7 false true false false) := by
  refine returnsInHanded_of_change (C := Try.checked) Try.ownN started (by kernel_rfl) Try.func7
    (ChangeSpec.witness6 (enc := enc) (C := Try.checked) false ⟨#[], #[.agg #[.int .i64 0, .string ⟨#[]⟩, .string ⟨#[]⟩, .bool false, .int .i64 0, .slice none 0 0, .slice none 0 0, .slice none 0 0], .agg #[.int .i64 0, .string ⟨#[]⟩, .string ⟨#[]⟩, .bool false, .int .i64 0, .slice none 0 0, .slice none 0 0, .slice none 0 0]], []⟩ 8 (by kernel_rfl) (by kernel_rfl) (by kernel_rfl) (by kernel_rfl)) ?_
  intro W base args ds gs before hval0 hW _ _
  have hval : ∀ (j : Nat) t v, Try.f7.params[j]? = some t → args[j]? = some v → Value.okWide Try.prog W .any base t v := hval0
  have hW' := hW
  obtain ⟨p, q, hA0, hV, rfl, _, _⟩ := hW
  have hA : DataW.TrodAll enc Try.prog W 0 (fun _ => true) true Try.f7.params.toList args.toList ds p := hA0
  rw [Try.params7] at hA hval
  obtain ⟨v0, v1, d0, d1, p0, p1, rfl, rfl, rfl, h0, h1⟩ := trodAll_two hA
  obtain ⟨rfl, rfl⟩ := trodVars_none hV
  obtain ⟨l, rfl, hsz⟩ := okWide_struct Try.underlying62 (hval 0 62 v0 rfl rfl)
  obtain ⟨l2, rfl, hsz2⟩ := okWide_struct Try.underlying62 (hval 1 62 v1 rfl rfl)
  have h0k := h0
  have h1k := h1
  obtain ⟨fuel, hf⟩ := h0
  obtain ⟨fuel2, hf2⟩ := h1
  clear hA0 hval0
  simp only [List.append_nil] at hW'
  have hlt : ∀ x ∈ p0 ++ p1, x.block < W.heap.size := fun x hx => by simpa using hW'.lt x hx
  obtain ⟨lv, nx, lo, hi, la, ak, av, ac, nk, ck, nv, cv, nc, cc, ks, vs, cs, hcs, hN⟩ := node_read (by simpa [Value.cells] using hf)
  obtain ⟨lv2, nx2, lo2, hi2, la2, ak2, av2, ac2, nk2, ck2, nv2, cv2, nc2, cc2, ks2, vs2, cs2, hcs2, hM⟩ := node_read (by simpa [Value.cells] using hf2)
  have hca : l = #[.int .i64 lv, .string lo, .string hi, .bool la, .int .i64 nx, .slice ak nk ck, .slice av nv cv, .slice ac nc cc] := by
    apply Array.ext'
    exact hcs
  have hca2 : l2 = #[.int .i64 lv2, .string lo2, .string hi2, .bool la2, .int .i64 nx2, .slice ak2 nk2 ck2, .slice av2 nv2 cv2, .slice ac2 nc2 cc2] := by
    apply Array.ext'
    exact hcs2
  subst hca
  subst hca2
  refine (same_any lv nx lo hi la ak av ac nk ck nv cv nc cc lv2 nx2 lo2 hi2 la2 ak2 av2 ac2 nk2 ck2 nv2 cv2 nc2 cc2 ks vs cs ks2 vs2 cs2 W hN hM).mono fun e W' ⟨he, hb⟩ => ?_
  subst he
  refine ⟨_, rfl, _, _, _, [], p0 ++ p1, [], hW', trodAll_mk1 (shut_bool Try.underlying4 _), ?_, rfl, hb.frame _, fun h => by cases h⟩
  exact trodAll_mk2 (Below.trod Try.laidOut (by kernel_rfl) (of_decide_eq_true (by kernel_rfl)) h0k hb (fun x hx => hlt x (List.mem_append_left _ hx))) (Below.trod Try.laidOut (by kernel_rfl) (of_decide_eq_true (by kernel_rfl)) h1k hb (fun x hx => hlt x (List.mem_append_right _ hx)))

theorem nodeSame_holds : Rows.NodeSameSaid :=
  OpenClaim.holds_of_wide 7 Try.f7 rfl rfl rfl rfl rfl rfl rfl ⟨rfl, rfl, rfl, rfl, rfl⟩ rfl rfl rfl rfl rfl (by kernel_rfl) Try.func7 (by kernel_rfl)
    (of_decide_eq_true (by kernel_rfl)) (by unfold Func.isWrapper; rw [if_neg (by decide +kernel)]; exact ⟨rfl, rfl⟩)
    (fun os started H enc _ => nodeSame_lifted os started H enc)
end Go.Proofs.Ytlbafmmeglafhaa
