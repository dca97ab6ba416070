/- bowerref05.Same: are two items' boxes the same? Conditions: numbers are numbers, each kind is one of five; at most 2^30 items and bytes. -/
import Derived.Test.YtbghemndcndhpaaDoorBoxCutL
import Derived.Test.YtbghemndcndhpaaDoorBoxSameB
import Derived.BigQuiet
import Derived.Deep.DeepCutAuto
namespace Go.Proofs.YtbghemndcndhpaaDoor
open Go.RowKit

def RSameOk (x : Itm) : Prop := ∀ (y : Itm) (S T : Nat → Prop) (u v : Value) (w : World), Sits S w x u → Sits T w y v → vI x → vI y → okI x → okI y → wI x ≤ 1073741824 → wI y ≤ 1073741824 →
  Calls Tryd.prog 22 #[u, v] w fun e w' => Says w w' e (bxI x = bxI y)

theorem kind_bx (k n : Int) (s : ByteArray) (l : List Itm) (h : 0 ≤ k ∧ k ≤ 4) : ((kindB (bxI (.mk k n s l)) : Nat) : Int) = k := by
  have hk : k = 0 ∨ k = 1 ∨ k = 2 ∨ k = 3 ∨ k = 4 := by omega
  rcases hk with rfl | rfl | rfl | rfl | rfl <;> (rw [bxI]; simp [kindB])

theorem truth_iff (a b : Nat) : (((a : Int) % 2 == (b : Int) % 2) = true ↔ Bx.truth (decide ((a : Int) % 2 = 1)) = Bx.truth (decide ((b : Int) % 2 = 1))) := by
  constructor
  · intro h
    rw [eq_of_beq h]
  · intro h
    injection h with h
    rw [decide_eq_decide] at h
    simp only [beq_iff_eq]
    omega
theorem number_iff (a b : Nat) : (((a : Int) == (b : Int)) = true ↔ Bx.number a = Bx.number b) := by
  constructor
  · intro h
    have := eq_of_beq h
    congr 1
    omega
  · intro h
    injection h with h
    rw [h]
    simp
theorem text_iff (a b : ByteArray) : ((a.toList == b.toList) = true ↔ Bx.text a = Bx.text b) := by
  constructor
  · intro h
    have := eq_of_beq h
    rw [ByteArray.toList_eq, ByteArray.toList_eq] at this
    rw [text_of_list this]
  · intro h
    injection h with h
    rw [h]
    simp

theorem bx_list (n : Int) (s : ByteArray) (l : List Itm) : bxI (.mk 4 n s l) = .list (bxIs l) := by
  rw [bxI, if_neg (by omega), if_neg (by omega), if_neg (by omega), if_pos rfl]

set_option maxHeartbeats 8000000 in
set_option maxRecDepth 100000 in
theorem rsame_step (k n : Int) (s : ByteArray) (l : List Itm) (ih : ∀ x ∈ l, RSameOk x) : RSameOk (.mk k n s l) := by
  intro y S T u v w hx hy hvx hvy hox hoy hwx hwy
  obtain ⟨k2, n2, s2, l2⟩ := y
  rw [Sits] at hx hy
  obtain ⟨ao, c, rfl, hc, hsl⟩ := hx
  obtain ⟨ao2, c2, rfl, hc2, hsl2⟩ := hy
  rw [vI] at hvx hvy
  rw [okI, okIs_iff] at hox hoy
  have hkx := kind_bx k n s l hvx.1
  have hky := kind_bx k2 n2 s2 l2 hvy.1
  rw [wI] at hwx hwy
  obtain ⟨m, rfl⟩ : ∃ m : Nat, n = m := ⟨n.toNat, by omega⟩
  obtain ⟨m2, rfl⟩ : ∃ m : Nat, n2 = m := ⟨n2.toNat, by omega⟩
  have hm : (m : Int) < 18446744073709551616 := hox.1.2
  have hm2 : (m2 : Int) < 18446744073709551616 := hoy.1.2
  obtain ⟨N, hN⟩ : ∃ N, N = l.length := ⟨_, rfl⟩
  obtain ⟨N2, hN2⟩ : ∃ N2, N2 = l2.length := ⟨_, rfl⟩
  have hNw : N ≤ 1073741824 := by have := wIs_len l; omega
  have hNw2 : N2 ≤ 1073741824 := by have := wIs_len l2; omega
  rw [← hN] at hc ⊢
  rw [← hN2] at hc2 ⊢
  obtain ⟨W2, hW2⟩ : ∃ W2, W2 = (w.alloc (.cells #[.int .i64 k, .int .u64 (m : Nat), .string s, .slice ao N c] 25)).alloc (.cells #[.int .i64 k2, .int .u64 (m2 : Nat), .string s2, .slice ao2 N2 c2] 25) := ⟨_, rfl⟩
  have hb2 : Below w.heap.size w W2 := by rw [hW2]; exact (one_alloc w _).2.alloc (by simp) _
  have hf1 : Four W2 w.heap.size k m s (.slice ao N c) := by rw [hW2]; exact (Four.alloc w k m s (.slice ao N c)).keep (alloc_below _ _)
  have hf2 : Four W2 (w.heap.size + 1) k2 m2 s2 (.slice ao2 N2 c2) := by
    have h := Four.alloc (w.alloc (.cells #[.int .i64 k, .int .u64 (m : Nat), .string s, .slice ao N c] 25)) k2 m2 s2 (.slice ao2 N2 c2)
    rw [World.size_alloc] at h
    rw [hW2]
    exact h
  have HB2 := Lib.hid hb2
  have HF1 := Lib.hid hf1
  have HF2 := Lib.hid hf2
  have HE2 := Lib.hid hW2
  have HKX := Lib.hid hkx
  have HKY := Lib.hid hky
  have HN := Lib.hid hN
  have HN2 := Lib.hid hN2
  have HSL := Lib.hid hsl
  have HSL2 := Lib.hid hsl2
  have HOX := Lib.hid hox.2.2
  have HOY := Lib.hid hoy.2.2
  have HIH := Lib.hid ih
  have HVX := Lib.hid hvx
  have HVY := Lib.hid hvy
  have HWX := Lib.hid (show ∀ x ∈ l, wI x ≤ 1073741824 from fun x hx => by have := wIs_mem hx; omega)
  have HWY := Lib.hid (show ∀ x ∈ l2, wI x ≤ 1073741824 from fun x hx => by have := wIs_mem hx; omega)
  have hk04 := hvx.1
  clear hkx hky hN hN2 hsl hsl2 hox hoy ih hvx hvy hwx hwy hW2 hb2 hf1 hf2
  by_cases hkk : k = k2
  · by_cases h4 : k = 4
    · by_cases hl : N = N2
      · subst hkk
        subst h4
        subst hl
        have HRI : Hid ((∀ j (a : j < l.length) (b : j < l2.length), bxI l[j] = bxI l2[j]) → bxI (.mk 4 m s l) = bxI (.mk 4 m2 s2 l2)) := Lib.hid (fun h => by
          rw [bx_list, bx_list, bxIs_map, bxIs_map]
          congr 1
          refine List.ext_getElem (by simp [← HN.out, ← HN2.out]) (fun j a b => ?_)
          rw [List.getElem_map, List.getElem_map]
          exact h j (by simpa using a) (by simpa using b))
        have HRJ : Hid (bxI (.mk 4 m s l) = bxI (.mk 4 m2 s2 l2) → ∀ j (a : j < l.length) (b : j < l2.length), bxI l[j] = bxI l2[j]) := Lib.hid (fun h j a b => by
          rw [bx_list, bx_list, bxIs_map, bxIs_map] at h
          injection h with h
          have h2 : (l.map bxI)[j]? = (l2.map bxI)[j]? := by rw [h]
          rw [List.getElem?_map, List.getElem?_map, List.getElem?_eq_getElem a, List.getElem?_eq_getElem b] at h2
          simpa using h2)
        have HVL := Lib.hid ((vIs_iff l).1 (HVX.out.2 rfl))
        have HVL2 := Lib.hid ((vIs_iff l2).1 (HVY.out.2 rfl))
        clear hm hm2 hk04
        go_enter Tryd.func22, Tryd.ntmps22
        go_wp2
        go_loopw [5] (fun si wr => ∃ i : Nat, si = .int .i64 i ∧ i ≤ N ∧ Hid (Below W2.heap.size W2 wr) ∧ Hid (∀ j (a : j < l.length) (b : j < l2.length), j < i → bxI l[j] = bxI l2[j])) (fun si _ => N - (intOf si).toNat)
        case atStart => exact ⟨0, rfl, Nat.zero_le _, by rw [← HE2.out]; exact Lib.hid (Below.refl _ _), Lib.hid (fun j _ _ h => absurd h (by omega))⟩
        case round =>
          obtain ⟨i, rfl, hi, hR, hE⟩ := hrel
          have f13 := (HF1.out.keep hR.out).c3
          have f23 := (HF2.out.keep hR.out).c3
          have hbw : Below w.heap.size w wr := HB2.out.trans (hR.out.mono HB2.out.size)
          by_cases hlt : i < N
          · have hi1 : i < l.length := by rw [← HN.out]; exact hlt
            have hi2 : i < l2.length := by rw [← HN2.out]; exact hlt
            obtain ⟨b, o, ka, na, sa, aoa, lena, ca, hao, q0, q1, q2, q3, hx⟩ := item_at HSL.out hbw i hi1
            obtain rfl := hao
            obtain ⟨b2, o2, kb, nb, sb, aob, lenb, cb, hao2, r0, r1, r2, r3, hy⟩ := item_at HSL2.out hbw i hi2
            obtain rfl := hao2
            have HC : Hid (∀ W, Below wr.heap.size wr W → ((W.cell? ⟨w.heap.size, 3, none⟩ = some (.slice (some ⟨b, o, none⟩) N c) ∧ W.cell? ⟨w.heap.size + 1, 3, none⟩ = some (.slice (some ⟨b2, o2, none⟩) N c2) ∧ (W.cell? ⟨b, o + i * 4, none⟩ = some (.int .i64 ka) ∧ W.cell? ⟨b, o + i * 4 + 1, none⟩ = some (.int .u64 na) ∧ W.cell? ⟨b, o + i * 4 + 2, none⟩ = some (.string sa) ∧ W.cell? ⟨b, o + i * 4 + 3, none⟩ = some (.slice aoa lena ca)) ∧ W.cell? ⟨b2, o2 + i * 4, none⟩ = some (.int .i64 kb) ∧ W.cell? ⟨b2, o2 + i * 4 + 1, none⟩ = some (.int .u64 nb) ∧ W.cell? ⟨b2, o2 + i * 4 + 2, none⟩ = some (.string sb) ∧ W.cell? ⟨b2, o2 + i * 4 + 3, none⟩ = some (.slice aob lenb cb)) ∧ Below wr.heap.size wr W)) := Lib.hid (fun W h => ⟨⟨(h.cell (p := ⟨w.heap.size, 3, none⟩) (World.block_lt_of_cell? _ _ f13)).trans f13, (h.cell (p := ⟨w.heap.size + 1, 3, none⟩) (World.block_lt_of_cell? _ _ f23)).trans f23, ⟨(h.cell (p := ⟨b, o + i * 4, none⟩) (World.block_lt_of_cell? _ _ q0)).trans q0, (h.cell (p := ⟨b, o + i * 4 + 1, none⟩) (World.block_lt_of_cell? _ _ q1)).trans q1, (h.cell (p := ⟨b, o + i * 4 + 2, none⟩) (World.block_lt_of_cell? _ _ q2)).trans q2, (h.cell (p := ⟨b, o + i * 4 + 3, none⟩) (World.block_lt_of_cell? _ _ q3)).trans q3⟩, (h.cell (p := ⟨b2, o2 + i * 4, none⟩) (World.block_lt_of_cell? _ _ r0)).trans r0, (h.cell (p := ⟨b2, o2 + i * 4 + 1, none⟩) (World.block_lt_of_cell? _ _ r1)).trans r1, (h.cell (p := ⟨b2, o2 + i * 4 + 2, none⟩) (World.block_lt_of_cell? _ _ r2)).trans r2, (h.cell (p := ⟨b2, o2 + i * 4 + 3, none⟩) (World.block_lt_of_cell? _ _ r3)).trans r3⟩, h⟩)
            have HS : Hid (∀ W, ((W.cell? ⟨w.heap.size, 3, none⟩ = some (.slice (some ⟨b, o, none⟩) N c) ∧ W.cell? ⟨w.heap.size + 1, 3, none⟩ = some (.slice (some ⟨b2, o2, none⟩) N c2) ∧ (W.cell? ⟨b, o + i * 4, none⟩ = some (.int .i64 ka) ∧ W.cell? ⟨b, o + i * 4 + 1, none⟩ = some (.int .u64 na) ∧ W.cell? ⟨b, o + i * 4 + 2, none⟩ = some (.string sa) ∧ W.cell? ⟨b, o + i * 4 + 3, none⟩ = some (.slice aoa lena ca)) ∧ W.cell? ⟨b2, o2 + i * 4, none⟩ = some (.int .i64 kb) ∧ W.cell? ⟨b2, o2 + i * 4 + 1, none⟩ = some (.int .u64 nb) ∧ W.cell? ⟨b2, o2 + i * 4 + 2, none⟩ = some (.string sb) ∧ W.cell? ⟨b2, o2 + i * 4 + 3, none⟩ = some (.slice aob lenb cb)) ∧ Below wr.heap.size wr W) → Calls Tryd.prog 22 #[.agg #[.int .i64 ka, .int .u64 na, .string sa, .slice aoa lena ca], .agg #[.int .i64 kb, .int .u64 nb, .string sb, .slice aob lenb cb]] W fun e w' => ∃ r : Bool, e = .returned (.bool r) ∧ (r = true ↔ bxI l[i] = bxI l2[i]) ∧ Below wr.heap.size wr w') := Lib.hid (fun W h => (HIH.out _ (List.getElem_mem hi1) l2[i] S T _ _ W (hx.below h.2) (hy.below h.2) (HVL.out _ (List.getElem_mem hi1)) (HVL2.out _ (List.getElem_mem hi2)) (HOX.out _ (List.getElem_mem hi1)) (HOY.out _ (List.getElem_mem hi2)) (HWX.out _ (List.getElem_mem hi1)) (HWY.out _ (List.getElem_mem hi2))).mono (fun _ _ ⟨r, x1, x2, x3⟩ => ⟨r, x1, x2, h.2.trans (x3.mono h.2.size)⟩))
            have hS0 := HC.out wr.drew (Below.refl _ _).drew
            have HBW := Lib.hid hbw
            have HRR := Lib.hid (fun (h : bxI l[i] = bxI l2[i]) => h)
            clear q0 q1 q2 q3 r0 r1 r2 r3 hx hy hbw HRR
            go_wp2
            go_region_held_law (fun W => ((W.cell? ⟨w.heap.size, 3, none⟩ = some (.slice (some ⟨b, o, none⟩) N c) ∧ W.cell? ⟨w.heap.size + 1, 3, none⟩ = some (.slice (some ⟨b2, o2, none⟩) N c2) ∧ (W.cell? ⟨b, o + i * 4, none⟩ = some (.int .i64 ka) ∧ W.cell? ⟨b, o + i * 4 + 1, none⟩ = some (.int .u64 na) ∧ W.cell? ⟨b, o + i * 4 + 2, none⟩ = some (.string sa) ∧ W.cell? ⟨b, o + i * 4 + 3, none⟩ = some (.slice aoa lena ca)) ∧ W.cell? ⟨b2, o2 + i * 4, none⟩ = some (.int .i64 kb) ∧ W.cell? ⟨b2, o2 + i * 4 + 1, none⟩ = some (.int .u64 nb) ∧ W.cell? ⟨b2, o2 + i * 4 + 2, none⟩ = some (.string sb) ∧ W.cell? ⟨b2, o2 + i * 4 + 3, none⟩ = some (.slice aob lenb cb)) ∧ Below wr.heap.size wr W)) (first | (with_reducible exact hS0) | exact HC.out _ hB | assumption)
              (first | (go_at_call 22; (with_reducible refine (HS.out _ (by assumption)).mono ?_); rintro e w2 ⟨r, rfl, hr, hB⟩))
            have HB := Lib.hid hB
            have HRL := Lib.hid hr
            clear hB hr hS0 f13 f23
            cases r with
            | false =>
              go_wp2
              go_ret
              exact ⟨false, rfl, ⟨(fun h => by cases h), fun h => by have := HRL.out.2 (HRJ.out h i hi1 hi2); cases this⟩, HBW.out.trans (HB.out.mono HBW.out.size)⟩
            | true =>
              go_wp2
              go_roundw
              case rel => exact ⟨i + 1, by go_num, by omega, Lib.hid (hR.out.trans (HB.out.mono hR.out.size)), Lib.hid (fun j a b hj => by
                by_cases e : j = i
                · subst e; exact HRL.out.1 rfl
                · exact hE.out j a b (by omega))⟩
              case measure => simp [intOf]; omega
          · obtain rfl : N = i := by omega
            have HBW := Lib.hid hbw
            clear hbw
            go_wp2
            go_ret
            exact ⟨true, rfl, ⟨fun _ => HRI.out (fun j a b => hE.out j a b (by rw [HN.out]; exact a)), fun _ => rfl⟩, HBW.out⟩
      · subst hkk
        subst h4
        have HR : Hid (bxI (.mk 4 m s l) ≠ bxI (.mk 4 m2 s2 l2)) := Lib.hid (fun h => by
          rw [bx_list, bx_list] at h
          injection h with h
          have h2 := congrArg List.length h
          rw [bxIs_len, bxIs_len, ← HN.out, ← HN2.out] at h2
          exact hl h2)
        have hd1 : (((N : Nat) : Int) == (N2 : Nat)) = false := by simp; omega
        have hd3 : (((N : Nat) : Int) != (N2 : Nat)) = true := by simp; omega
        clear hl hk04 hc hc2 hm hm2 hNw hNw2
        go_enter Tryd.func22, Tryd.ntmps22
        go_wp2
        go_ret
        exact ⟨false, rfl, ⟨(fun h => by cases h), fun h => absurd h HR.out⟩, by rw [← HE2.out]; exact HB2.out⟩
    · subst hkk
      have h0 : k = 0 ∨ k = 1 ∨ k = 2 ∨ k = 3 := by omega
      have HBX : Hid (∀ p : Nat, ∀ (st : ByteArray) (ls : List Itm), bxI (.mk k p st ls) = if k = 1 then .truth (decide ((p : Int) % 2 = 1)) else if k = 2 then .number p else if k = 3 then .text st else .nothing) := Lib.hid (fun p st ls => by
        rw [bxI, if_neg h4]
        simp)
      have hk4 : (k == 4) = false := by simpa using h4
      have hlen : (((N : Nat) : Int) != (N2 : Nat)) = true ∨ (((N : Nat) : Int) != (N2 : Nat)) = false := by cases (((N : Nat) : Int) != (N2 : Nat)) <;> simp
      clear h4 hk04 hNw hNw2 hc hc2
      rcases h0 with rfl | rfl | rfl | rfl
      · have HR : Hid (bxI (.mk 0 m s l) = bxI (.mk 0 m2 s2 l2)) := Lib.hid (by rw [HBX.out, HBX.out]; simp)
        rcases hlen with hlen | hlen
        all_goals
          go_enter Tryd.func22, Tryd.ntmps22
          go_wp2
          go_ret
          exact ⟨true, rfl, ⟨fun _ => HR.out, fun _ => rfl⟩, by rw [← HE2.out]; exact HB2.out⟩
      · have HR : Hid (((m : Int) % 2 == (m2 : Int) % 2) = true ↔ bxI (.mk 1 m s l) = bxI (.mk 1 m2 s2 l2)) := Lib.hid (by rw [HBX.out, HBX.out, if_pos rfl, if_pos rfl]; exact truth_iff m m2)
        have htm : (m : Int).tmod 2 = (m : Int) % 2 := Int.tmod_eq_emod_of_nonneg (by omega)
        have htm2 : (m2 : Int).tmod 2 = (m2 : Int) % 2 := Int.tmod_eq_emod_of_nonneg (by omega)
        rcases hlen with hlen | hlen
        all_goals
          go_enter Tryd.func22, Tryd.ntmps22
          go_wp2
          go_ret
          exact ⟨(m : Int) % 2 == (m2 : Int) % 2, rfl, HR.out, by rw [← HE2.out]; exact HB2.out⟩
      · have HR : Hid (((m : Int) == (m2 : Int)) = true ↔ bxI (.mk 2 m s l) = bxI (.mk 2 m2 s2 l2)) := Lib.hid (by rw [HBX.out, HBX.out]; simpa using number_iff m m2)
        rcases hlen with hlen | hlen
        all_goals
          go_enter Tryd.func22, Tryd.ntmps22
          go_wp2
          go_ret
          exact ⟨(m : Int) == (m2 : Int), rfl, HR.out, by rw [← HE2.out]; exact HB2.out⟩
      · have HR : Hid ((s.toList == s2.toList) = true ↔ bxI (.mk 3 m s l) = bxI (.mk 3 m2 s2 l2)) := Lib.hid (by rw [HBX.out, HBX.out]; simpa using text_iff s s2)
        rcases hlen with hlen | hlen
        all_goals
          go_enter Tryd.func22, Tryd.ntmps22
          go_wp2
          go_ret
          exact ⟨s.toList == s2.toList, rfl, HR.out, by rw [← HE2.out]; exact HB2.out⟩
  · have hd1 : (k == k2) = false := by simpa using hkk
    have hd3 : (k != k2) = true := by simpa using hkk
    have HKK := Lib.hid hkk
    clear hkk
    go_enter Tryd.func22, Tryd.ntmps22
    go_wp2
    go_ret
    exact ⟨false, rfl, ⟨(fun h => by cases h), fun h => absurd (by rw [← HKX.out, ← HKY.out, h]) HKK.out⟩, by rw [← HE2.out]; exact HB2.out⟩

theorem rsame_any (x : Itm) : RSameOk x := by
  induction x using Itm.ind with
  | h k n s l ih => exact rsame_step k n s l ih
end Go.Proofs.YtbghemndcndhpaaDoor
