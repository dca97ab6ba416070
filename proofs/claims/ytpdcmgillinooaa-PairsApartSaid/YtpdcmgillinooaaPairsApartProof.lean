/- The law PairsApart: a clone is apart: what is done with one does not turn the other; one that is nil has nothing, a plain one has nothing yet: it returns true for every list of acts and every act, and both read behind the call as they read before. No condition. -/
import Derived.Test.YtpdcmgillinooaaPairsApart
import Derived.SizedLaws
namespace Go.Proofs.Ytpdcmgillinooaa
open Go.ChangeShapes Go.WideShapes Go.ChangeAt Go.RowKit

section
variable {H : Type} {enc : TypeId × Value → H} {w : World} {base : Nat} {spare : Nat → Bool} {held : Bool}

/-- An act that is handed in by value: its fields, and what they read as. -/
theorem act_open {v : Value} {d : DataW H} {ps : List MemPlace} (hv : Value.okWide Try.prog w .any base 31 v) (h : DataW.Trod enc Try.prog w 0 spare held 31 v d ps) :
    ∃ it : It, v = .agg #[.int .i64 it.kind, .string it.key, .int .u64 it.val, .string it.high, .int .i64 it.limit] ∧ d = .agg [.lit (.int .i64 it.kind), .lit (.string it.key.data.toList), .lit (.int .u64 it.val), .lit (.string it.high.data.toList), .lit (.int .i64 it.limit)] := by
  obtain ⟨cs, rfl, hcs⟩ := okWide_struct Try.underlying31 hv
  obtain ⟨fuel, hf⟩ := h
  rw [Try.cellsAct] at hcs
  obtain ⟨xs, n, _, hx, hlen, hxl, hfs⟩ := DataW.trod_struct Try.underlying31 hf
  obtain ⟨l⟩ := cs
  have hl5 : l.length = 5 := by simpa using hcs
  match l, hl5 with
  | [a, b, c, d1, e1'], _ =>
    have hxl5 : xs.length = 5 := by simpa using hxl
    match xs, hxl5 with
    | [x0, x1, x2, x3, x4], _ =>
      have h0 : DataW.trod enc Try.prog w 0 spare held n 3 [a] = some x0 := by simpa [Value.cells, Try.cells3] using hfs 0 _ rfl
      have h1 : DataW.trod enc Try.prog w 0 spare held n 9 [b] = some x1 := by simpa [Value.cells, Try.cells9] using hfs 1 _ rfl
      have h2 : DataW.trod enc Try.prog w 0 spare held n 29 [c] = some x2 := by simpa [Value.cells, Try.cells28] using hfs 2 _ rfl
      have h3 : DataW.trod enc Try.prog w 0 spare held n 9 [d1] = some x3 := by simpa [Value.cells, Try.cells9] using hfs 3 _ rfl
      have h4 : DataW.trod enc Try.prog w 0 spare held n 3 [e1'] = some x4 := by simpa [Value.cells, Try.cells3] using hfs 4 _ rfl
      obtain ⟨n0, e0, y0, _⟩ := DataW.trod_int Try.underlying3 h0
      obtain ⟨s1, e1, y1, _⟩ := DataW.trod_string Try.underlying9 h1
      obtain ⟨n2, e2, y2, _⟩ := DataW.trod_int Try.underlying29 h2
      obtain ⟨s3, e3, y3, _⟩ := DataW.trod_string Try.underlying9 h3
      obtain ⟨n4, e4, y4, _⟩ := DataW.trod_int Try.underlying3 h4
      simp at e0 e1 e2 e3 e4
      subst e0 e1 e2 e3 e4
      refine ⟨⟨n0, s1, n2, s3, n4⟩, rfl, ?_⟩
      have := congrArg Prod.fst hx
      simp only [List.map_cons, List.map_nil] at this
      rw [this, y0, y1, y2, y3, y4]

/-- No text of it takes more than the reach. -/
theorem act_sized {ts : List TypeId} {ds : List (DataW H)} (h : (DataW.weightsEach Try.prog ts ds).all (· ≤ reachBytes) = true) {j : Nat} (ht : ts[j]? = some 31) {it : It}
    (hd : ds[j]? = some (.agg [.lit (.int .i64 it.kind), .lit (.string it.key.data.toList), .lit (.int .u64 it.val), .lit (.string it.high.data.toList), .lit (.int .i64 it.limit)])) : it.key.size ≤ 140737488355328 ∧ it.high.size ≤ 140737488355328 := by
  have hr : reachBytes ≤ 140737488355328 := by unfold reachBytes; omega
  have hw : DataW.weights Try.prog 31 (.agg [.lit (.int .i64 it.kind), .lit (.string it.key.data.toList), .lit (.int .u64 it.val), .lit (.string it.high.data.toList), .lit (.int .i64 it.limit)] : DataW H) = DataW.weightsEach Try.prog [3, 9, 29, 9, 3] ([.lit (.int .i64 it.kind), .lit (.string it.key.data.toList), .lit (.int .u64 it.val), .lit (.string it.high.data.toList), .lit (.int .i64 it.limit)] : List (DataW H)) := by
    conv => lhs; unfold DataW.weights
    rw [Try.underlying31]
    rfl
  have h1 := List.all_eq_true.1 h _ (DataW.weights_mem_each ht hd it.key.data.toList.length (by rw [hw]; exact DataW.weights_mem_each (j := 1) (t := 9) (d := .lit (.string it.key.data.toList)) rfl rfl _ (by unfold DataW.weights; simp)))
  have h2 := List.all_eq_true.1 h _ (DataW.weights_mem_each ht hd it.high.data.toList.length (by rw [hw]; exact DataW.weights_mem_each (j := 3) (t := 9) (d := .lit (.string it.high.data.toList)) rfl rfl _ (by unfold DataW.weights; simp)))
  have e1 : it.key.data.toList.length = it.key.size := by rw [Array.length_toList]; rfl
  have e2 : it.high.data.toList.length = it.high.size := by rw [Array.length_toList]; rfl
  rw [e1] at h1
  rw [e2] at h2
  have h1 := of_decide_eq_true h1
  have h2 := of_decide_eq_true h2
  omega
end

set_option maxRecDepth 100000 in
theorem pairsApart_lifted (os : Os) (started : os.Started) (H : Type) (enc : TypeId × Value → H) :
    ReturnsInHanded {} Try.checked os 5 .any (Rows.pairsApartSpec.pre6 enc Try.prog Try.f5 Rows.pairsApartRow.domain false) (Rows.pairsApartSpec.post enc Try.prog Try.f5 false true false false) := by
  refine returnsInHanded_of_change_sized (C := Try.checked) Try.own started (by kernel_rfl) Try.func5
    (ChangeSpec.witness6 (enc := enc) (C := Try.checked) false ⟨#[], #[.slice none 0 0, .agg #[.int .i64 0, .string ⟨#[]⟩, .int .u64 0, .string ⟨#[]⟩, .int .i64 0]], []⟩ 8 (by kernel_rfl) (by kernel_rfl) (by kernel_rfl) (by kernel_rfl)) ?_
  intro W base args ds gs before hval0 hW _ hsz _
  have hval : ∀ (j : Nat) t v, Try.f5.params[j]? = some t → args[j]? = some v → Value.okWide Try.prog W .any base t v := hval0
  have hW' := hW
  obtain ⟨p, q, hA0, hV, rfl, _, _⟩ := hW
  have hA : DataW.TrodAll enc Try.prog W 0 (fun _ => true) true Try.f5.params.toList args.toList ds p := hA0
  rw [Try.params5] at hA hval
  obtain ⟨v0, v1, d0, d1, p0, p1, rfl, rfl, rfl, h0, h1⟩ := trodAll_two hA
  obtain ⟨rfl, rfl⟩ := trodVars_none hV
  obtain ⟨a0, len, cap, rfl⟩ := okWide_slice Try.underlying22 (hval 0 22 v0 rfl rfl)
  obtain ⟨it, rfl, rfl⟩ := act_open (hval 1 31 v1 rfl rfl) h1
  have hs := act_sized (j := 1) hsz (by rw [Try.params5]; rfl) rfl
  have h0k := h0
  obtain ⟨fuel, hf⟩ := h0
  clear hA0 hval0
  simp only [List.append_nil] at hW'
  have hlt : ∀ x ∈ p0 ++ p1, x.block < W.heap.size := fun x hx => by simpa using hW'.lt x hx
  obtain ⟨hlen, X, hx, hok⟩ := items_read (by simpa [Value.cells] using hf)
  refine (pairsApart_any a0 len cap X it.kind it.val it.limit it.key it.high W hx hok hlen hs.1 hs.2).mono fun e W' ⟨he, hb⟩ => ?_
  subst he
  refine ⟨_, rfl, _, _, _, [], p0 ++ p1, [], hW', trodAll_mk1 (shut_bool Try.underlying4 _), ?_, rfl, hb.frame _, fun h => by cases h⟩
  exact trodAll_mk2 (Below.trod Try.laidOut (by kernel_rfl) (of_decide_eq_true (by kernel_rfl)) h0k hb (fun x hx => hlt x (List.mem_append_left _ hx))) (Below.trod Try.laidOut (by kernel_rfl) (of_decide_eq_true (by kernel_rfl)) h1 hb (fun x hx => hlt x (List.mem_append_right _ hx)))

theorem pairsApart_holds : Rows.PairsApartSaid :=
  OpenClaim.holds_of_wide 5 Try.f5 rfl rfl rfl rfl rfl rfl rfl ⟨rfl, rfl, rfl, rfl, rfl⟩ rfl rfl rfl rfl rfl (by kernel_rfl) Try.func5 (by kernel_rfl)
    (of_decide_eq_true (by kernel_rfl)) (by unfold Func.isWrapper; rw [if_neg (by decide +kernel)]; exact ⟨rfl, rfl⟩)
    (fun os started H enc _ => pairsApart_lifted os started H enc)
end Go.Proofs.Ytpdcmgillinooaa
