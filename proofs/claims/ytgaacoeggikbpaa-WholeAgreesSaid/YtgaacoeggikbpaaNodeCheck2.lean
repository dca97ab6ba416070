/- node.soundEntries of inner nodes, Check. Condition: texts of at most 2^47 bytes, at most 2^38 keys. -/
import Derived.Test.YtgaacoeggikbpaaNodeCheck
import Derived.BigQuiet
namespace Go.Proofs.Ytgaacoeggikbpaa
open Go.RowKit

theorem txt_is {a b : ByteArray} (h : a = b) : (a.toList == b.toList) = true ∧ (a.toList != b.toList) = false := by rw [h]; simp
theorem txt_not {a b : ByteArray} (h : a ≠ b) : (a.toList == b.toList) = false ∧ (a.toList != b.toList) = true := ⟨text_ne h, by rw [bne, text_ne h]; rfl⟩

set_option maxHeartbeats 2000000 in
set_option maxRecDepth 100000 in
theorem soundInner_any (lv nx : Int) (lo hi : ByteArray) (la : Bool) (ak av ac : Option Addr) (nk ck nv cv nc cc : Nat) (ks : List ByteArray) (vs : List Nat) (cs : List Int) (w : World) (hN : NdAt w ak av ac nk ck nv cv nc cc ks vs cs) (h0 : lv ≠ 0) :
    Calls Try.prog 39 #[.agg #[.int .i64 lv, .string lo, .string hi, .bool la, .int .i64 nx, .slice ak nk ck, .slice av nv cv, .slice ac nc cc]] w fun e w' => EveryGives w w' e (EntriesP lv lo nk nv nc ks cs) := by
  have HB := Lib.hid (boxed_below w (.cells #[.int .i64 lv, .string lo, .string hi, .bool la, .int .i64 nx, .slice ak nk ck, .slice av nv cv, .slice ac nc cc] 38))
  have HNB := Lib.hid (NB.new w #[.int .i64 lv, .string lo, .string hi, .bool la, .int .i64 nx, .slice ak nk ck, .slice av nv cv, .slice ac nc cc])
  have hlk := rd_len hN.k
  have hl2 := hlk.2.1
  have hl3 := hlk.2.2
  have hlc := rd_len hN.c
  have hc3 := hlc.2.2
  have hc2 := hlc.2.1
  have HNN := Lib.hid hN
  have hv0 : (lv == 0) = false := by simpa using h0
  have HV0 := Lib.hid h0
  clear hN hlk hlc h0
  by_cases h1 : nc = nk
  · have g1 : ((nc : Int) != (nk : Int)) = false := by rw [h1]; simp
    by_cases h2 : nc = 0
    · have g2 : ((nc : Int) == 0) = true := by rw [h2]; rfl
      have HN : Hid (¬ EntriesP lv lo nk nv nc ks cs) := Lib.hid (fun h => (h.inner HV0.out).2.1 h2)
      clear h1 h2
      go_enter Try.func39, Try.ntmps39
      go_wp2
      go_ret
      exact ⟨false, rfl, ⟨fun h => (by cases h), fun h => absurd h HN.out⟩, HB.out⟩
    have g2 : ((nc : Int) == 0) = false := beq_eq_false_iff_ne.2 (by omega)
    by_cases h3 : 0 < nv
    · have g3 : (0 : Int) < nv := by omega
      have HN : Hid (¬ EntriesP lv lo nk nv nc ks cs) := Lib.hid (fun h => by have := (h.inner HV0.out).2.2.1; omega)
      clear h1 h2
      go_enter Try.func39, Try.ntmps39
      go_wp2
      go_ret
      exact ⟨false, rfl, ⟨fun h => (by cases h), fun h => absurd h HN.out⟩, HB.out⟩
    have g3 : ¬ (0 : Int) < nv := by omega
    have hk0 : 0 < nk := by omega
    have hk0' : (0 : Int) < nk := by omega
    obtain ⟨gk, ok, rfl, hck⟩ := rd_at (HNN.out.keep HB.out).k (⟨#[]⟩ : ByteArray) 0 hk0
    have c0 : _ = some (Value.string (nth ks 0)) := hck 0 hk0
    rw [Nat.add_zero] at c0
    have HH := Lib.hid (And.intro h1 (And.intro h2 (show nv = 0 by omega)))
    clear hck h1 h2 h3
    by_cases h4 : nth ks 0 = lo
    · have z1 := (txt_is h4).1
      obtain ⟨b, hb⟩ := bool_or (∀ i, i < nk - 1 → keyB (nth (ks.drop 1) i) = true)
      obtain ⟨d, hd⟩ := bool_or (KidsP nc cs)
      have HEV := Lib.hid (fun a2 (h2 : 1 < nk → a2 = (some ⟨gk, ok, none⟩ : Option Addr).map fun x => x.add 1) W (hB : Below w.heap.size w W) => everyKey_of a2 (nk - 1) (ck - 1) (ks.drop 1) b W (by
        have := (HNN.out.keep hB).k.drop 1 (by omega) a2 h2
        rw [← List.map_drop] at this
        exact this) hb)
      have HAK := Lib.hid (fun W (hB : Below w.heap.size w W) => areKids_of ac nc cc cs d W (HNN.out.keep hB).c hd)
      have HE : Hid (EntriesP lv lo nk nv nc ks cs ↔ b = true ∧ d = true) := Lib.hid (by
        constructor
        · intro h
          have h5 := h.inner HV0.out
          refine ⟨hb.2 (fun i hi => ?_), hd.2 h5.2.2.2.2.2⟩
          rw [nth_drop]
          exact h5.2.2.2.2.1 (i + 1) (by omega) (by omega)
        · rintro ⟨h5, h6⟩
          refine ⟨fun h => absurd h HV0.out, fun _ => ⟨HH.out.1, HH.out.2.1, HH.out.2.2, h4, fun i hi1 hi2 => ?_, hd.1 h6⟩⟩
          have := hb.1 h5 (i - 1) (by omega)
          rw [nth_drop, show i - 1 + 1 = i by omega] at this
          exact this)
      have HDB := Lib.hid (fun (W1 : World) (n : Nat) (h : Below w.heap.size w W1) => h.trans (Drew.below (w := W1) (w' := W1.drewN n) ⟨n, rfl⟩ _))
      clear hb hd h4
      have hsplit : (1 = ck) ∨ (1 < ck) := by omega
      generalize nth ks 0 = s0 at *
      have HAK1 : Hid (∀ n, Calls Try.prog 68 #[.slice ac nc cc] ((w.alloc (.cells #[.int .i64 lv, .string lo, .string hi, .bool la, .int .i64 nx, .slice (some ⟨gk, ok, none⟩) nk ck, .slice av nv cv, .slice ac nc cc] 38)).drewN n) fun e w' => e = .returned (.bool d) ∧ Drew ((w.alloc (.cells #[.int .i64 lv, .string lo, .string hi, .bool la, .int .i64 nx, .slice (some ⟨gk, ok, none⟩) nk ck, .slice av nv cv, .slice ac nc cc] 38)).drewN n) w') := Lib.hid (fun n => HAK.out _ (HDB.out _ n HB.out))
      rcases hsplit with rfl | h5
      · have HE1 : Hid (∀ n, Calls Try.prog 66 #[.slice (some ⟨gk, ok, none⟩) 0 0, .func (.func 63) #[] #[]] ((w.alloc (.cells #[.int .i64 lv, .string lo, .string hi, .bool la, .int .i64 nx, .slice (some ⟨gk, ok, none⟩) nk 1, .slice av nv cv, .slice ac nc cc] 38)).drewN n) fun e w' => e = .returned (.bool b) ∧ Drew ((w.alloc (.cells #[.int .i64 lv, .string lo, .string hi, .bool la, .int .i64 nx, .slice (some ⟨gk, ok, none⟩) nk 1, .slice av nv cv, .slice ac nc cc] 38)).drewN n) w') := Lib.hid (fun n => by
          have h6 := HEV.out (some ⟨gk, ok, none⟩) (fun h => absurd h (by omega)) _ (HDB.out _ n HB.out)
          rw [show nk - 1 = 0 by omega] at h6
          exact h6)
        clear HEV HAK
        cases b with
        | false =>
          have HN : Hid (¬ EntriesP lv lo nk nv nc ks cs) := Lib.hid (fun h => by have := (HE.out.1 h).1; cases this)
          go_enter Try.func39, Try.ntmps39
          go_wp2
          go_quiet ((first | (go_at_call 66; exact Calls.quiet_of (HE1.out _)) | (go_at_call 68; exact Calls.quiet_of (HAK1.out _))))
          go_wp2
          go_ret
          exact ⟨false, rfl, ⟨fun h => (by cases h), fun h => absurd h HN.out⟩, HDB.out _ _ HB.out⟩
        | true =>
          cases d with
          | false =>
            have HN : Hid (¬ EntriesP lv lo nk nv nc ks cs) := Lib.hid (fun h => by have := (HE.out.1 h).2; cases this)
            go_enter Try.func39, Try.ntmps39
            go_wp2
            go_quiet ((first | (go_at_call 66; exact Calls.quiet_of (HE1.out _)) | (go_at_call 68; exact Calls.quiet_of (HAK1.out _))))
            go_wp2
            go_ret
            exact ⟨false, rfl, ⟨fun h => (by cases h), fun h => absurd h HN.out⟩, HDB.out _ _ HB.out⟩
          | true =>
            have HN : Hid (EntriesP lv lo nk nv nc ks cs) := Lib.hid (HE.out.2 ⟨rfl, rfl⟩)
            go_enter Try.func39, Try.ntmps39
            go_wp2
            go_quiet ((first | (go_at_call 66; exact Calls.quiet_of (HE1.out _)) | (go_at_call 68; exact Calls.quiet_of (HAK1.out _))))
            go_wp2
            go_ret
            exact ⟨true, rfl, ⟨fun _ => HN.out, fun _ => rfl⟩, HDB.out _ _ HB.out⟩
      · have HE1 : Hid (∀ n, Calls Try.prog 66 #[.slice (some ⟨gk, ok + 1, none⟩) (nk - 1) (ck - 1), .func (.func 63) #[] #[]] ((w.alloc (.cells #[.int .i64 lv, .string lo, .string hi, .bool la, .int .i64 nx, .slice (some ⟨gk, ok, none⟩) nk ck, .slice av nv cv, .slice ac nc cc] 38)).drewN n) fun e w' => e = .returned (.bool b) ∧ Drew ((w.alloc (.cells #[.int .i64 lv, .string lo, .string hi, .bool la, .int .i64 nx, .slice (some ⟨gk, ok, none⟩) nk ck, .slice av nv cv, .slice ac nc cc] 38)).drewN n) w') := Lib.hid (fun n => HEV.out (some ⟨gk, ok + 1, none⟩) (fun _ => rfl) _ (HDB.out _ n HB.out))
        clear HEV HAK
        cases b with
        | false =>
          have HN : Hid (¬ EntriesP lv lo nk nv nc ks cs) := Lib.hid (fun h => by have := (HE.out.1 h).1; cases this)
          go_enter Try.func39, Try.ntmps39
          go_wp2
          go_quiet ((first | (go_at_call 66; exact Calls.quiet_of (HE1.out _)) | (go_at_call 68; exact Calls.quiet_of (HAK1.out _))))
          go_wp2
          go_ret
          exact ⟨false, rfl, ⟨fun h => (by cases h), fun h => absurd h HN.out⟩, HDB.out _ _ HB.out⟩
        | true =>
          cases d with
          | false =>
            have HN : Hid (¬ EntriesP lv lo nk nv nc ks cs) := Lib.hid (fun h => by have := (HE.out.1 h).2; cases this)
            go_enter Try.func39, Try.ntmps39
            go_wp2
            go_quiet ((first | (go_at_call 66; exact Calls.quiet_of (HE1.out _)) | (go_at_call 68; exact Calls.quiet_of (HAK1.out _))))
            go_wp2
            go_ret
            exact ⟨false, rfl, ⟨fun h => (by cases h), fun h => absurd h HN.out⟩, HDB.out _ _ HB.out⟩
          | true =>
            have HN : Hid (EntriesP lv lo nk nv nc ks cs) := Lib.hid (HE.out.2 ⟨rfl, rfl⟩)
            go_enter Try.func39, Try.ntmps39
            go_wp2
            go_quiet ((first | (go_at_call 66; exact Calls.quiet_of (HE1.out _)) | (go_at_call 68; exact Calls.quiet_of (HAK1.out _))))
            go_wp2
            go_ret
            exact ⟨true, rfl, ⟨fun _ => HN.out, fun _ => rfl⟩, HDB.out _ _ HB.out⟩
    · have z1 := (txt_not h4).1
      have HN : Hid (¬ EntriesP lv lo nk nv nc ks cs) := Lib.hid (fun h => h4 (h.inner HV0.out).2.2.2.1)
      clear h4
      generalize nth ks 0 = s0 at *
      go_enter Try.func39, Try.ntmps39
      go_wp2
      go_quiet (fail)
      go_wp2
      go_ret
      exact ⟨false, rfl, ⟨fun h => (by cases h), fun h => absurd h HN.out⟩, HB.out.trans (Drew.below ⟨_, rfl⟩ _)⟩
  · have g1 : ((nc : Int) != (nk : Int)) = true := by rw [bne_iff_ne]; omega
    have HN : Hid (¬ EntriesP lv lo nk nv nc ks cs) := Lib.hid (fun h => h1 (h.inner HV0.out).1)
    clear h1
    go_enter Try.func39, Try.ntmps39
    go_wp2
    go_ret
    exact ⟨false, rfl, ⟨fun h => (by cases h), fun h => absurd h HN.out⟩, HB.out⟩
end Go.Proofs.Ytgaacoeggikbpaa
