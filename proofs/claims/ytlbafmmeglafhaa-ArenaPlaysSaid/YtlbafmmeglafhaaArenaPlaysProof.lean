/- The law ArenaPlays: whatever is claimed, freed, put and got, by whichever references, an arena answers and has what the document says: it returns true for every number of blocks, every generation and every list of acts, and the list reads behind the call as it read before. No condition. -/
import Derived.Test.YtlbafmmeglafhaaArenaPlays
namespace Go.Proofs.Ytlbafmmeglafhaa
open Go.ChangeShapes Go.WideShapes Go.ChangeAt Go.RowKit Go.ChangeMaps

set_option maxHeartbeats 4000000 in
set_option maxRecDepth 100000 in
/-- Where it plays nothing. -/
theorem aplays_not (n : Int) (gen : Nat) (ao : Option Addr) (len cap : Nat) (w : World) (h : 80 < len ∨ (len ≤ 80 ∧ 40 < n ∧ n ≤ 8192)) :
    Calls Try.prog 3 #[.int .i64 n, .int .u64 gen, .slice ao len cap] w fun e w' => e = .returned (.bool true) ∧ Below w.heap.size w w' := by
  have HL := Lib.hid (fun W => lives9_any W)
  have hc : (80 : Int) < len ∨ (¬ (80 : Int) < len ∧ 40 < n ∧ n ≤ 8192) := by omega
  clear h
  rcases hc with g1 | ⟨g1, g2, g3⟩
  all_goals
    go_enter Try.func3, Try.ntmps3
    go_wp2_with fail
    refine (HL.out _).mono ?_
    rintro e w1 ⟨rfl, hb⟩
    have HB := Lib.hid hb
    clear hb
    go_wp2
    go_ret
    exact ⟨rfl, HB.out⟩

set_option maxHeartbeats 4000000 in
set_option maxRecDepth 100000 in
/-- Where there is no arena. -/
theorem aplays_nil (n : Int) (gen : Nat) (ao : Option Addr) (len cap : Nat) (w : World) (h : len ≤ 80) (hn : n < 1 ∨ 8192 < n ∨ (1 ≤ n ∧ n ≤ 40 ∧ 4294967295 < gen)) :
    Calls Try.prog 3 #[.int .i64 n, .int .u64 gen, .slice ao len cap] w fun e w' => e = .returned (.bool true) ∧ Below w.heap.size w w' := by
  have HL := Lib.hid (fun W => lives9_any W)
  have HN := Lib.hid (new_out n gen w (by omega))
  have HC := Lib.hid (fun W => claim_zero (.pointer none) 0 W (aLen_nil W))
  have HG := Lib.hid (fun W => get_zero (.pointer none) 1 W (aLen_nil W))
  have HF := Lib.hid (fun W => free_zero (.pointer none) 1 W (aLen_nil W))
  have HLEN := Lib.hid (fun W => aLen_nil W)
  have HU := Lib.hid (fun W => used_nil W)
  have HW := Lib.hid (fun W => withdrawn_nil W)
  have g1 : ¬ (80 : Int) < len := by omega
  have hc : (¬ 40 < n ∧ n < 1) ∨ (40 < n ∧ ¬ n ≤ 8192 ∧ ¬ n < 1 ∧ 8192 < n) ∨ (¬ 40 < n ∧ ¬ n < 1 ∧ ¬ 8192 < n ∧ (4294967295 : Int) < gen) := by omega
  clear h hn
  rcases hc with ⟨g2, g3⟩ | ⟨g2, g3, g4, g5⟩ | ⟨g2, g3, g4, g5⟩
  all_goals
    go_enter Try.func3, Try.ntmps3
    go_wp2_with fail
    refine HN.out.mono ?_
    rintro e w1 ⟨rfl, rfl⟩
    go_wp2_with fail
    refine (HC.out _).mono ?_
    rintro e w1 ⟨rfl, rfl⟩
    go_wp2_with fail
    refine (HG.out _).mono ?_
    rintro e w1 ⟨rfl, rfl⟩
    go_wp2_with fail
    refine (HF.out _).mono ?_
    rintro e w1 ⟨rfl, rfl⟩
    go_wp2_with fail
    refine (HLEN.out _).mono ?_
    rintro e w1 ⟨rfl, rfl⟩
    go_wp2_with fail
    refine (HU.out _).mono ?_
    rintro e w1 ⟨rfl, rfl⟩
    go_wp2_with fail
    refine (HW.out _).mono ?_
    rintro e w1 ⟨rfl, rfl⟩
    go_wp2_with fail
    refine (HL.out _).mono ?_
    rintro e w1 ⟨rfl, hb⟩
    have HB := Lib.hid hb
    clear hb
    go_wp2
    go_ret
    exact ⟨rfl, HB.out⟩

theorem aplays_any (n : Int) (gen : Nat) (ao : Option Addr) (len cap : Nat) (X : Nat → It) (w : World) (hx : Items w w.heap.size ao len X) (hok : ∀ i, i < len → (X i).ok) :
    Calls Try.prog 3 #[.int .i64 n, .int .u64 gen, .slice ao len cap] w fun e w' => e = .returned (.bool true) ∧ Below w.heap.size w w' := by
  by_cases h1 : 80 < len
  · exact aplays_not n gen ao len cap w (Or.inl h1)
  by_cases h2 : 40 < n ∧ n ≤ 8192
  · exact aplays_not n gen ao len cap w (Or.inr ⟨by omega, h2⟩)
  by_cases h3 : n < 1 ∨ 8192 < n ∨ (1 ≤ n ∧ n ≤ 40 ∧ 4294967295 < gen)
  · exact aplays_nil n gen ao len cap w (by omega) h3
  · obtain ⟨m, rfl⟩ : ∃ m : Nat, n = m := ⟨n.toNat, by omega⟩
    exact aplays_in m gen (by omega) (by omega) ao len cap X w hx hok (by omega)

set_option maxRecDepth 100000 in
theorem arenaPlays_lifted (os : Os) (started : os.Started) (H : Type) (enc : TypeId × Value → H) :
    ReturnsInHanded {} Try.checked os 3 .any (Rows.arenaPlaysSpec.pre6 enc Try.prog Try.f3 Rows.arenaPlaysRow.domain false) (Rows.arenaPlaysSpec.post enc Try.prog Try.f3 false true false false) := by
  refine returnsInHanded_of_change (C := Try.checked) Try.own started (by kernel_rfl) Try.func3
    (ChangeSpec.witness6 (enc := enc) (C := Try.checked) false ⟨#[], #[.int .i64 0, .int .u64 0, .slice none 0 0], []⟩ 8 (by kernel_rfl) (by kernel_rfl) (by kernel_rfl) (by kernel_rfl)) ?_
  intro W base args ds gs before hval0 hW _ _
  have hval : ∀ (j : Nat) t v, Try.f3.params[j]? = some t → args[j]? = some v → Value.okWide Try.prog W .any base t v := hval0
  have hW' := hW
  obtain ⟨p, q, hA0, hV, rfl, _, _⟩ := hW
  have hA : DataW.TrodAll enc Try.prog W 0 (fun _ => true) true Try.f3.params.toList args.toList ds p := hA0
  rw [Try.params3] at hA hval
  obtain ⟨v0, v1, v2, d0, d1, d2, p0, p1, p2, rfl, rfl, rfl, h0, h1, h2⟩ := trodAll_three hA
  obtain ⟨rfl, rfl⟩ := trodVars_none hV
  obtain ⟨n, rfl, rfl, rfl, hs0⟩ := open_int Try.underlying3 (hval 0 3 v0 rfl rfl) h0
  obtain ⟨a1, rfl, rfl, rfl, hs1⟩ := open_int Try.underlying22 (hval 1 22 v1 rfl rfl) h1
  obtain ⟨gen, rfl, hgen⟩ := u64_in hs1
  obtain ⟨a2, len, cap, rfl⟩ := okWide_slice Try.underlying23 (hval 2 23 v2 rfl rfl)
  have h2k := h2
  obtain ⟨fuel2, hf2⟩ := h2
  clear hA0 hval0
  simp only [List.append_nil, List.nil_append] at hW'
  have hlt : ∀ x ∈ p2, x.block < W.heap.size := fun x hx => by simpa using hW'.lt x hx
  obtain ⟨hlen, X, hx, hok⟩ := items_read (by simpa [Value.cells] using hf2)
  refine (aplays_any n gen a2 len cap X W hx hok).mono fun e W' ⟨he, hb⟩ => ?_
  subst he
  refine ⟨_, rfl, _, _, _, [], p2, [], hW', trodAll_mk1 (shut_bool Try.underlying4 _), ?_, rfl, hb.frame _, fun h => by cases h⟩
  have ht := trodAll_mk3 (shut_int (w := W') Try.underlying3 hs0) (shut_int (w := W') Try.underlying22 hs1) (Below.trod Try.laidOut (by kernel_rfl) (of_decide_eq_true (by kernel_rfl)) h2k hb hlt)
  simp only [List.nil_append] at ht
  exact ht

theorem arenaPlays_holds : Rows.ArenaPlaysSaid :=
  OpenClaim.holds_of_wide 3 Try.f3 rfl rfl rfl rfl rfl rfl rfl ⟨rfl, rfl, rfl, rfl, rfl⟩ rfl rfl rfl rfl rfl (by kernel_rfl) Try.func3 (by kernel_rfl)
    (of_decide_eq_true (by kernel_rfl)) (by unfold Func.isWrapper; rw [if_neg (by decide +kernel)]; exact ⟨rfl, rfl⟩)
    (fun os started H enc _ => arenaPlays_lifted os started H enc)
end Go.Proofs.Ytlbafmmeglafhaa
