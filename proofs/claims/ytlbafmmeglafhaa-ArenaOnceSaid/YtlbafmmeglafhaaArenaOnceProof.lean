/- The law ArenaOnce: no two claims tell one reference; what is got by one is what was put by it; a block that is withdrawn stays so: it returns true for every number, every generation and every list of places, and the list reads behind the call as it read before. No condition. -/
import Derived.Test.YtlbafmmeglafhaaArenaOnce
namespace Go.Proofs.Ytlbafmmeglafhaa
open Go.ChangeShapes Go.WideShapes Go.ChangeAt Go.RowKit Go.ChangeMaps

set_option maxHeartbeats 4000000 in
set_option maxRecDepth 100000 in
/-- Where there is no arena, or the list is long. -/
theorem aonce_not (n gen : Nat) (hn : n < 256) (hgk : gen < 18446744073709551616) (ao : Option Addr) (len cap : Nat) (w : World) (h : 4294967295 < gen ∨ (gen ≤ 4294967295 ∧ 80 < len)) :
    Calls Try.prog 4 #[.int .u8 n, .int .u64 gen, .slice ao len cap] w fun e w' => e = .returned (.bool true) ∧ Below w.heap.size w w' := by
  have HLV := Lib.hid (fun W => lives9_any W)
  obtain ⟨m, hm⟩ : ∃ m, m = 1 + n % 8 := ⟨_, rfl⟩
  have hm8 : 1 ≤ m ∧ m ≤ 8 := by omega
  have hr1 : (n : Int).tmod 8 = ((n % 8 : Nat) : Int) := by rw [Int.tmod_eq_emod_of_nonneg (by omega)]; omega
  have hr2 : (n : Int) % 8 = ((n % 8 : Nat) : Int) := by omega
  have hr3 : (1 : Int) + ((n % 8 : Nat) : Int) = (m : Int) := by omega
  have hr4 : n % 8 < 8 := by omega
  rcases h with h | ⟨h, h2⟩
  · have HN := Lib.hid (new_out m gen w (by omega))
    have hg : (4294967295 : Int) < gen := by omega
    clear hm h
    generalize n % 8 = r at *
    go_enter Try.func4, Try.ntmps4
    go_wp2_with fail
    refine HN.out.mono ?_
    rintro e w1 ⟨rfl, rfl⟩
    go_wp2_with fail
    refine (HLV.out _).mono ?_
    rintro e w1 ⟨rfl, hb⟩
    have HB := Lib.hid hb
    clear hb
    go_wp2
    go_ret
    exact ⟨rfl, HB.out⟩
  · have HN := Lib.hid (new_in m gen (by omega) h w)
    have h2' : (80 : Int) < len := by omega
    clear hm h
    generalize n % 8 = r at *
    generalize List.replicate m ((leftS gen, gen, 0) : Bk) = L0 at *
    go_enter Try.func4, Try.ntmps4
    go_wp2_with fail
    refine HN.out.mono ?_
    rintro e w1 ⟨b, g, h, rfl, ha, hlow, hb1⟩
    have HB1 := Lib.hid hb1
    clear ha hlow hb1
    go_wp2_with fail
    refine (HLV.out _).mono ?_
    rintro e w2 ⟨rfl, hb⟩
    have HB := Lib.hid (HB1.out.trans (hb.mono HB1.out.size))
    clear hb
    go_wp2
    go_ret
    exact ⟨rfl, HB.out⟩

theorem aonce_any (n gen : Nat) (hn : n < 256) (hgk : gen < 18446744073709551616) (ao : Option Addr) (len cap : Nat) (X : Nat → Nat) (w : World) (hx : Bytes8 w w.heap.size ao len X) (hxk : ∀ i, i < len → X i < 256) :
    Calls Try.prog 4 #[.int .u8 n, .int .u64 gen, .slice ao len cap] w fun e w' => e = .returned (.bool true) ∧ Below w.heap.size w w' := by
  by_cases h : 4294967295 < gen ∨ (gen ≤ 4294967295 ∧ 80 < len)
  · exact aonce_not n gen hn hgk ao len cap w h
  · exact aonce_in n gen hn (by omega) ao len cap X w hx hxk (by omega)

set_option maxRecDepth 100000 in
theorem arenaOnce_lifted (os : Os) (started : os.Started) (H : Type) (enc : TypeId × Value → H) :
    ReturnsInHanded {} Try.checked os 4 .any (Rows.arenaOnceSpec.pre6 enc Try.prog Try.f4 Rows.arenaOnceRow.domain false) (Rows.arenaOnceSpec.post enc Try.prog Try.f4 false true false false) := by
  refine returnsInHanded_of_change (C := Try.checked) Try.own started (by kernel_rfl) Try.func4
    (ChangeSpec.witness6 (enc := enc) (C := Try.checked) false ⟨#[], #[.int .u8 0, .int .u64 0, .slice none 0 0], []⟩ 8 (by kernel_rfl) (by kernel_rfl) (by kernel_rfl) (by kernel_rfl)) ?_
  intro W base args ds gs before hval0 hW _ _
  have hval : ∀ (j : Nat) t v, Try.f4.params[j]? = some t → args[j]? = some v → Value.okWide Try.prog W .any base t v := hval0
  have hW' := hW
  obtain ⟨p, q, hA0, hV, rfl, _, _⟩ := hW
  have hA : DataW.TrodAll enc Try.prog W 0 (fun _ => true) true Try.f4.params.toList args.toList ds p := hA0
  rw [Try.params4] at hA hval
  obtain ⟨v0, v1, v2, d0, d1, d2, p0, p1, p2, rfl, rfl, rfl, h0, h1, h2⟩ := trodAll_three hA
  obtain ⟨rfl, rfl⟩ := trodVars_none hV
  obtain ⟨a0, rfl, rfl, rfl, hs0⟩ := open_int Try.underlying5 (hval 0 5 v0 rfl rfl) h0
  obtain ⟨n, rfl, hn⟩ := u8_in hs0
  obtain ⟨a1, rfl, rfl, rfl, hs1⟩ := open_int Try.underlying22 (hval 1 22 v1 rfl rfl) h1
  obtain ⟨gen, rfl, hgen⟩ := u64_in hs1
  obtain ⟨a2, len, cap, rfl⟩ := okWide_slice Try.underlying52 (hval 2 52 v2 rfl rfl)
  have h2k := h2
  obtain ⟨fuel2, hf2⟩ := h2
  clear hA0 hval0
  simp only [List.append_nil, List.nil_append] at hW'
  have hlt : ∀ x ∈ p2, x.block < W.heap.size := fun x hx => by simpa using hW'.lt x hx
  obtain ⟨hlen, X, hx, hok⟩ := bytes8_read (by simpa [Value.cells] using hf2)
  refine (aonce_any n gen hn hgen a2 len cap X W hx hok).mono fun e W' ⟨he, hb⟩ => ?_
  subst he
  refine ⟨_, rfl, _, _, _, [], p2, [], hW', trodAll_mk1 (shut_bool Try.underlying4 _), ?_, rfl, hb.frame _, fun h => by cases h⟩
  have ht := trodAll_mk3 (shut_int (w := W') Try.underlying5 hs0) (shut_int (w := W') Try.underlying22 hs1) (Below.trod Try.laidOut (by kernel_rfl) (of_decide_eq_true (by kernel_rfl)) h2k hb hlt)
  simp only [List.nil_append] at ht
  exact ht

theorem arenaOnce_holds : Rows.ArenaOnceSaid :=
  OpenClaim.holds_of_wide 4 Try.f4 rfl rfl rfl rfl rfl rfl rfl ⟨rfl, rfl, rfl, rfl, rfl⟩ rfl rfl rfl rfl rfl (by kernel_rfl) Try.func4 (by kernel_rfl)
    (of_decide_eq_true (by kernel_rfl)) (by unfold Func.isWrapper; rw [if_neg (by decide +kernel)]; exact ⟨rfl, rfl⟩)
    (fun os started H enc _ => arenaOnce_lifted os started H enc)
end Go.Proofs.Ytlbafmmeglafhaa
