/- Free of an arena. Condition: what an arena has is as New and Claim leave it; words are words. -/
import Derived.Test.YtlbafmmeglafhaaArenaActs
import Derived.Deep.RegionHeldLaw
namespace Go.Proofs.Ytlbafmmeglafhaa
open Go.RowKit

def freeL (l : List Bk) (w : Nat) : List Bk := if atE l w = 0 then l.set (openP w) (leftS (gn l (openP w)), gn l (openP w), 0) else l

theorem left_fits (v : Nat) (h : v ≤ 4294967295) : Fits (leftS v, v, 0) := by
  unfold leftS
  split
  · exact ⟨by simp, h, by simp, by simp, by simp⟩
  · rename_i hn
    exact ⟨by simp, h, ⟨fun _ => hn, fun _ => rfl⟩, by simp, by simp⟩

theorem set_get {l : List Bk} {j : Nat} (hj : j < l.length) (p : Bk) : st (l.set j p) j = p.1 ∧ gn (l.set j p) j = p.2.1 ∧ xx (l.set j p) j = p.2.2 := by
  unfold st gn xx
  rw [List.getD_eq_getElem?_getD, List.getElem?_set_self hj]
  exact ⟨rfl, rfl, rfl⟩
theorem set_get_ne {l : List Bk} {j k : Nat} (hj : j ≠ k) (p : Bk) : st (l.set k p) j = st l j ∧ gn (l.set k p) j = gn l j ∧ xx (l.set k p) j = xx l j := by
  unfold st gn xx
  rw [List.getD_eq_getElem?_getD, List.getD_eq_getElem?_getD, List.getElem?_set_ne (Ne.symm hj)]
  exact ⟨rfl, rfl, rfl⟩

theorem AWrote.from_ {w w1 w2 : World} {b g h : Nat} {l : List Bk} (hb : Below w.heap.size w w1) (H : AWrote w1 w2 b g h l) : AWrote w w2 b g h l :=
  ⟨H.arena, (Keep.of_below hb _).trans H.keep (fun _ _ h => h)⟩

/-- Two writes at one place. -/
theorem free_end {w w2 W : World} {b g h : Nat} {l : List Bk} {p : Nat} (hp : p < l.length) (H : ArenaAt w b g h l) (h2 : w2 = w.setCell ⟨h, p, none⟩ (.int .i64 0)) (hb : Below w2.heap.size w2 W) :
    AWrote w ((W.setCell ⟨g, p * 2, none⟩ (.int .i64 (leftS (gn l p) : Nat))).setCell ⟨g, p * 2 + 1, none⟩ (.int .u64 (gn l p : Nat))) b g h (l.set p (leftS (gn l p), gn l p, 0)) := by
  have hf := H.fits p hp
  have h3 := H.setHeld p 0 hp ⟨hf.1, hf.2.1, ⟨hf.2.2.1.1, fun _ => rfl⟩, by simp⟩
  rw [← h2] at h3
  have h4 := h3.below hb
  have hp' : p < (l.set p (st l p, gn l p, 0)).length := by rw [List.length_set]; exact hp
  have e := (set_get hp (st l p, gn l p, 0)).2.2
  have h5 := AWrote.use h4 p (leftS (gn l p)) (gn l p) hp' (by rw [e]; exact left_fits _ hf.2.1)
  rw [e, List.set_set] at h5
  refine ⟨h5.arena, Keep.trans (b := W) ?_ h5.keep (fun _ _ h => h)⟩
  have k1 : Keep (fun k => k = g ∨ k = h) w w2 := by rw [h2]; exact (Keep.refl _ w).set (fun _ => Or.inr rfl) _
  exact k1.trans (Keep.of_below hb (fun _ => False)) (fun _ _ h => h.elim)

set_option maxHeartbeats 4000000 in
set_option maxRecDepth 100000 in
theorem free_any (b g h : Nat) (l : List Bk) (word : Nat) (hw : word < 18446744073709551616) (w : World) (H : ArenaAt w b g h l) :
    Calls Try.prog 12 #[.pointer (some ⟨b, 0, none⟩), .int .u64 word] w fun e w' => e = .returned (.int .i64 (atE l word : Nat)) ∧ AWrote w w' b g h (freeL l word) := by
  have HN := Lib.hid (named_any b g h l word hw w H)
  by_cases hz : atE l word = 0
  · obtain ⟨-, h2, -, -, h5⟩ := at_zero hz
    have HA := Lib.hid (fun W1 (hb : Below w.heap.size w W1) => H.below hb)
    have HX : Hid (freeL l word = l.set (openP word) (leftS (gn l (openP word)), gn l (openP word), 0)) := Lib.hid (by unfold freeL; rw [if_pos hz])
    have hlen := H.len
    have hf := H.fits _ h2
    have HZ := Lib.hid hz
    rw [hz, h5] at HN
    have h2' : (openP word : Int) < l.length := by omega
    have HP := Lib.hid h2
    clear H hw hz h5
    generalize openP word = p at *
    obtain ⟨n, hn⟩ : ∃ n, n = l.length := ⟨_, rfl⟩
    rw [← hn] at hlen h2 h2'
    have HNN := Lib.hid hn
    clear hn
    go_enter Try.func12, Try.ntmps12
    go_wp2_with fail
    refine HN.out.mono ?_
    rintro e w1 ⟨rfl, hb⟩
    have A1 := HA.out _ hb
    have HA1 := Lib.hid A1
    have HB := Lib.hid hb
    have c1 := A1.c1
    have c2 := A1.has _ HP.out
    have f1 := A1.held.frozen p
    rw [← HNN.out] at c1
    obtain ⟨w2, hw2⟩ : ∃ w2, w2 = w1.setCell ⟨h, p, none⟩ (.int .i64 0) := ⟨_, rfl⟩
    have A2 := A1.setHeld p 0 HP.out ⟨hf.1, hf.2.1, ⟨hf.2.2.1.1, fun _ => rfl⟩, by simp⟩
    rw [← hw2] at A2
    have e := set_get HP.out (st l p, gn l p, 0)
    have hp' : p < (l.set p (st l p, gn l p, 0)).length := by rw [List.length_set]; exact HP.out
    have HC : Hid (∀ V, Below w2.heap.size w2 V → V.cell? ⟨b, 0, none⟩ = some (.slice (some ⟨g, 0, none⟩) n n) ∧ V.cell? ⟨g, p * 2 + 1, none⟩ = some (.int .u64 (gn l p : Nat))) := Lib.hid (fun V hV => by
      have A3 := A2.below hV
      have d0 := A3.c0
      have d2 := A3.gen p hp'
      rw [List.length_set, ← HNN.out] at d0
      rw [e.2.1] at d2
      exact ⟨d0, d2⟩)
    have HF : Hid (∀ V, Below w2.heap.size w2 V → V.cell? ⟨g, p * 2, none⟩ = some (.int .i64 (st l p : Nat)) ∧ V.frozen? ⟨g, p * 2, none⟩ = false ∧ V.frozen? ⟨g, p * 2 + 1, none⟩ = false) := Lib.hid (fun V hV => by
      have A3 := A2.below hV
      have d1 := A3.state p hp'
      rw [e.1] at d1
      exact ⟨d1, A3.row.frozen _, A3.row.frozen _⟩)
    clear e hp'
    have HW2 := Lib.hid hw2
    have HEND := Lib.hid (fun V (hV : Below w2.heap.size w2 V) => free_end HP.out A1 hw2 hV)
    have HKEEP : Hid (∀ V, Below w2.heap.size w2 V → ((V.setCell ⟨g, p * 2, none⟩ (.int .i64 (leftS (gn l p) : Nat))).setCell ⟨g, p * 2 + 1, none⟩ (.int .u64 (gn l p : Nat))).cell? ⟨b, 0, none⟩ = some (.slice (some ⟨g, 0, none⟩) n n) ∧ ((V.setCell ⟨g, p * 2, none⟩ (.int .i64 (leftS (gn l p) : Nat))).setCell ⟨g, p * 2 + 1, none⟩ (.int .u64 (gn l p : Nat))).cell? ⟨g, p * 2 + 1, none⟩ = some (.int .u64 (gn l p : Nat))) := Lib.hid (fun V hV => by
      have A3 := (HEND.out V hV).arena
      have d0 := A3.c0
      have d2 := A3.gen p (by rw [List.length_set]; exact HP.out)
      rw [List.length_set, ← HNN.out] at d0
      rw [(set_get HP.out _).2.1] at d2
      exact ⟨d0, d2⟩)
    have HLF := Lib.hid (fun V => left_any (gn l p) V)
    have hS0 := HC.out w2.drew (Below.refl _ _).drew
    clear hb A1 A2 hw2 hf HA
    generalize l.set p (leftS (gn l p), gn l p, 0) = l' at *
    generalize leftS (gn l p) = ls at *
    generalize gn l p = v at *
    generalize st l p = s at *
    go_wp2
    rw [← HW2.out]
    go_region_held_law (fun V => V.cell? ⟨b, 0, none⟩ = some (.slice (some ⟨g, 0, none⟩) n n) ∧ V.cell? ⟨g, p * 2 + 1, none⟩ = some (.int .u64 (v : Nat)))
      (first | (with_reducible exact hS0) | exact HC.out _ hA1 | exact HKEEP.out _ hA1 | assumption)
      (first
        | (go_at_call 38; (with_reducible refine (HLF.out _).mono ?_); rintro e wa ⟨rfl, hb1⟩; have hA1 := (Below.refl w2.heap.size w2).drew.trans (hb1.mono (Nat.le_refl _)); have g1 := (HF.out _ hA1).1; have g2 := (HF.out _ hA1).2.1; have g3 := (HF.out _ hA1).2.2))
    go_wp2
    go_ret
    exact ⟨by rw [HZ.out]; rfl, by rw [HX.out]; exact AWrote.from_ HB.out (HEND.out _ hA1)⟩
  · have HX : Hid (freeL l word = l) := Lib.hid (by unfold freeL; rw [if_neg hz])
    have hne : ((atE l word : Int) != 0) = true := by rw [bne_iff_ne]; omega
    have HA := Lib.hid (fun W1 (hb : Below w.heap.size w W1) => H.below hb)
    clear H hw hz
    generalize atE l word = ae at *
    go_enter Try.func12, Try.ntmps12
    go_wp2_with fail
    refine HN.out.mono ?_
    rintro e w1 ⟨rfl, hb⟩
    have HB := Lib.hid hb
    clear hb
    go_wp2
    go_ret
    exact ⟨rfl, by rw [HX.out]; exact HA.out _ HB.out, Keep.of_below HB.out _⟩
end Go.Proofs.Ytlbafmmeglafhaa
