/- bowerlaw09's own calls: lives, word, like. Condition: words are words. -/
import Derived.Test.YtlbafmmeglafhaaArenaDoc3
namespace Go.Proofs.Ytlbafmmeglafhaa
open Go.RowKit

section
variable {w w1 w2 : World} {b g h : Nat} {l : List Bk}
theorem AWrote.below {B : Nat} (H : AWrote w w1 b g h l) (hB : B ≤ w.heap.size) (hg : B ≤ g) (hh : B ≤ h) : Below B w w1 := H.keep.below hB (fun k hk => by omega)
end

set_option maxHeartbeats 8000000 in
theorem lives9_any (w : World) : Calls Try.prog 8 #[] w fun e w' => e = .returned (.bool true) ∧ Below w.heap.size w w' := by
  have HN := Lib.hid (new_in 2 0 (by omega) (by omega) w)
  have HC1 := Lib.hid (fun b g h W H => claim_any b g h [(0, 0, 0), (0, 0, 0)] 0 W H)
  have HF := Lib.hid (fun b g h W H => free_any b g h [(1, 1, 0), (0, 0, 0)] 16385 (by decide) W H)
  have HC2 := Lib.hid (fun b g h W H => claim_any b g h [(0, 1, 0), (0, 0, 0)] 0 W H)
  have HG1 := Lib.hid (fun b g h W H => get_any b g h [(1, 2, 0), (0, 0, 0)] 16385 (by decide) W H)
  have HG2 := Lib.hid (fun b g h W H => get_any b g h [(1, 2, 0), (0, 0, 0)] 32769 (by decide) W H)
  have HU := Lib.hid (fun b g h W H => used_any b g h [(1, 2, 0), (0, 0, 0)] W H)
  rw [show clW [(0, 0, 0), (0, 0, 0)] 0 = 16385 by decide, show clE [(0, 0, 0), (0, 0, 0)] 0 = 0 by decide, show clL [(0, 0, 0), (0, 0, 0)] 0 = [(1, 1, 0), (0, 0, 0)] by decide] at HC1
  rw [show atE [(1, 1, 0), (0, 0, 0)] 16385 = 0 by decide, show freeL [(1, 1, 0), (0, 0, 0)] 16385 = [(0, 1, 0), (0, 0, 0)] by decide] at HF
  rw [show clW [(0, 1, 0), (0, 0, 0)] 0 = 32769 by decide, show clE [(0, 1, 0), (0, 0, 0)] 0 = 0 by decide, show clL [(0, 1, 0), (0, 0, 0)] 0 = [(1, 2, 0), (0, 0, 0)] by decide] at HC2
  rw [show getX [(1, 2, 0), (0, 0, 0)] 16385 = 0 by decide, show atE [(1, 2, 0), (0, 0, 0)] 16385 = 23 by decide] at HG1
  rw [show getX [(1, 2, 0), (0, 0, 0)] 32769 = 0 by decide, show atE [(1, 2, 0), (0, 0, 0)] 32769 = 0 by decide] at HG2
  rw [show manyB [(1, 2, 0), (0, 0, 0)] 1 = 1 by decide] at HU
  go_enter Try.func8, Try.ntmps8
  go_wp2_with fail
  refine HN.out.mono ?_
  rintro e w1 ⟨b, g, h, rfl, h1, hl1, hb1⟩
  have HLO := Lib.hid hl1
  have HB1 := Lib.hid hb1
  have HA1 := Lib.hid (show ArenaAt w1 b g h [(0, 0, 0), (0, 0, 0)] from h1)
  clear h1 hl1 hb1
  go_wp2_with fail
  refine (HC1.out b g h _ HA1.out).mono ?_
  rintro e w2 ⟨rfl, h2⟩
  have HA2 := Lib.hid h2
  have HB2 := Lib.hid (HB1.out.trans (h2.below HB1.out.size HLO.out.2.1 HLO.out.2.2))
  clear h2
  go_wp2_with fail
  refine (HF.out b g h _ HA2.out.arena).mono ?_
  rintro e w3 ⟨rfl, h3⟩
  have HA3 := Lib.hid h3
  have HB3 := Lib.hid (HB2.out.trans (h3.below HB2.out.size HLO.out.2.1 HLO.out.2.2))
  clear h3
  go_wp2_with fail
  refine (HC2.out b g h _ HA3.out.arena).mono ?_
  rintro e w4 ⟨rfl, h4⟩
  have HA4 := Lib.hid h4
  have HB4 := Lib.hid (HB3.out.trans (h4.below HB3.out.size HLO.out.2.1 HLO.out.2.2))
  clear h4
  go_wp2_with fail
  refine (HG1.out b g h _ HA4.out.arena).mono ?_
  rintro e w5 ⟨rfl, h5⟩
  have HA5 := Lib.hid (HA4.out.arena.below h5)
  have HB5 := Lib.hid (HB4.out.trans (h5.mono HB4.out.size))
  clear h5
  go_wp2_with fail
  refine (HG2.out b g h _ HA5.out).mono ?_
  rintro e w6 ⟨rfl, h6⟩
  have HA6 := Lib.hid (HA5.out.below h6)
  have HB6 := Lib.hid (HB5.out.trans (h6.mono HB5.out.size))
  clear h6
  go_wp2_with fail
  refine (HU.out b g h _ HA6.out).mono ?_
  rintro e w7 ⟨rfl, h7⟩
  have HB7 := Lib.hid (HB6.out.trans (h7.mono HB6.out.size))
  clear h7
  go_wp2
  go_ret
  exact ⟨rfl, HB7.out⟩

/-- Words that were told. -/
def ucells (T : List Nat) : List Value := T.map fun n => .int .u64 (n : Nat)
theorem ucells_len (T : List Nat) : (ucells T).length = T.length := by unfold ucells; simp
theorem ucells_append (T S : List Nat) : ucells (T ++ S) = ucells T ++ ucells S := by unfold ucells; simp
def tn (T : List Nat) (i : Nat) : Nat := T.getD i 0
theorem ucells_get (T : List Nat) (i : Nat) (hi : i < T.length) : (ucells T)[i]? = some (.int .u64 (tn T i : Nat)) := by
  unfold ucells tn
  rw [List.getElem?_map, List.getD_eq_getElem?_getD, List.getElem?_eq_getElem hi]; rfl

/-- A row of words of the call's own. -/
structure OwnU (w : World) (B : Nat) (v : Value) (T : List Nat) : Prop where
  own : w.ownsRow B 22 1 v T.length (ucells T)
  fit : ∀ n ∈ T, n < 18446744073709551616
section
variable {w w' : World} {B : Nat} {v : Value} {T : List Nat}
theorem OwnU.below (h : OwnU w B v T) (hb : Below w.heap.size w w') : OwnU w' B v T := ⟨own_keep h.own hb, h.fit⟩
theorem OwnU.nil (w : World) (B : Nat) : OwnU w B (.slice none 0 0) [] := ⟨World.ownsRow_nil _ _ _ _, by simp⟩
theorem OwnU.keep {g h : Nat} {t t' : TypeId} {cs cs' : Array Value} (H : OwnU w B v T) (hk : Keep (fun k => k = g ∨ k = h) w w') (hg : Blk w g t cs) (hh : Blk w h t' cs') (ht : t ≠ 22) (ht' : t' ≠ 22) : OwnU w' B v T := by
  refine ⟨⟨H.own.1, ?_⟩, H.fit⟩
  rcases H.own.2 with hn | ⟨g', cap, cur, rfl, hbg, hg', rest⟩
  · exact Or.inl hn
  · refine Or.inr ⟨g', cap, cur, rfl, hbg, ?_, rest⟩
    have hb' : Blk w g' 22 cur := hg'
    refine hb'.keep hk ?_
    rintro (e | e)
    · exact hg.ne_ hb' ht e.symm
    · exact hh.ne_ hb' ht' e.symm
theorem OwnU.open (H : OwnU w B v T) : ∃ ao c, v = .slice ao T.length c ∧ T.length ≤ c ∧ c ≤ 9223372036854775807 ∧ ∀ j, j < T.length → ∃ g, ao = some ⟨g, 0, none⟩ ∧ w.cell? ⟨g, j, none⟩ = some (.int .u64 (tn T j : Nat)) := by
  rcases H.own.2 with ⟨rfl, hz⟩ | ⟨g, cap, cur, rfl, _, hg, hnc, hm, hs, ht⟩
  · exact ⟨none, 0, by rw [hz], by omega, by omega, fun j hj => by omega⟩
  · unfold maxLen at hm
    refine ⟨_, cap, rfl, hnc, by omega, fun j hj => ⟨g, rfl, ?_⟩⟩
    have hb : Blk w g 22 cur := hg
    have h1 := ucells_get T j hj
    rw [← ht, List.getElem?_take_of_lt (by omega)] at h1
    rw [hb.cell, ← h1]; simp
theorem OwnU.fits (H : OwnU w B v T) (j : Nat) : tn T j < 18446744073709551616 := by
  unfold tn
  rw [List.getD_eq_getElem?_getD]
  cases h : T[j]? with
  | none => simp
  | some n => simpa using H.fit n (List.mem_of_getElem? h)
theorem OwnU.more {n : Nat} (hf : ∀ n ∈ T, n < 18446744073709551616) (hn : n < 18446744073709551616) (h : w'.ownsRow B 22 1 v (T.length + 1) (ucells T ++ [.int .u64 n])) : OwnU w' B v (T ++ [n]) := by
  refine ⟨?_, fun m hm => ?_⟩
  · rw [List.length_append, ucells_append]; exact h
  · rcases List.mem_append.1 hm with hm | hm
    · exact hf m hm
    · simp at hm; omega
end

/-- Which reference is meant. -/
def wordOf (ago : Int) (raw : Nat) (T : List Nat) : Nat := if raw = 0 ∧ 0 ≤ ago ∧ ago < T.length then tn T (T.length - 1 - ago.toNat) else raw

set_option maxHeartbeats 2000000 in
theorem word_any (k a ago : Int) (raw : Nat) (x : Int) (B : Nat) (v : Value) (T : List Nat) (hT : T.length ≤ 100) (w : World) (h : OwnU w B v T) :
    Calls Try.prog 18 #[.agg #[.int .i64 k, .int .i64 a, .int .i64 ago, .int .u64 raw, .int .i64 x], v] w fun e w' => e = .returned (.int .u64 (wordOf ago raw T : Nat)) ∧ Below w.heap.size w w' := by
  obtain ⟨ao, c, rfl, hc, hcm, hcs⟩ := h.open
  have HB := Lib.hid (one_alloc w (.cells #[.int .i64 k, .int .i64 a, .int .i64 ago, .int .u64 raw, .int .i64 x] 38)).2
  by_cases hr : raw = 0
  · subst hr
    by_cases h0 : ago < 0
    · have HW : Hid (wordOf ago 0 T = 0) := Lib.hid (by unfold wordOf; rw [if_neg (by omega)])
      clear hcs h
      generalize T.length = n at *
      go_enter Try.func18, Try.ntmps18
      go_wp2
      go_ret
      exact ⟨by rw [HW.out]; rfl, HB.out⟩
    by_cases h1 : (T.length : Int) ≤ ago
    · have HW : Hid (wordOf ago 0 T = 0) := Lib.hid (by unfold wordOf; rw [if_neg (by omega)])
      clear hcs h
      generalize T.length = n at *
      go_enter Try.func18, Try.ntmps18
      go_wp2
      go_ret
      exact ⟨by rw [HW.out]; rfl, HB.out⟩
    · have hj : T.length - 1 - ago.toNat < T.length := by omega
      have HW : Hid (wordOf ago 0 T = tn T (T.length - 1 - ago.toNat)) := Lib.hid (by unfold wordOf; rw [if_pos (by omega)])
      obtain ⟨g, rfl, hc1⟩ := hcs _ hj
      have hlt := World.block_lt_of_cell? w _ hc1
      have e1 : (T.length : Int) - 1 - ago = ((T.length - 1 - ago.toNat : Nat) : Int) := by omega
      have hj' : ((T.length - 1 - ago.toNat : Nat) : Int) < T.length := by omega
      clear hcs h
      generalize tn T (T.length - 1 - ago.toNat) = y at *
      generalize T.length - 1 - ago.toNat = j at *
      generalize T.length = n at *
      go_enter Try.func18, Try.ntmps18
      go_wp2
      go_ret
      exact ⟨by rw [HW.out]; rfl, HB.out⟩
  · have HW : Hid (wordOf ago raw T = raw) := Lib.hid (by unfold wordOf; rw [if_neg (by omega)])
    have hne : ((raw : Int) != 0) = true := by rw [bne_iff_ne]; omega
    clear hcs h hr
    generalize T.length = n at *
    go_enter Try.func18, Try.ntmps18
    go_wp2
    go_ret
    exact ⟨by rw [HW.out]; rfl, HB.out⟩

set_option maxHeartbeats 4000000 in
theorem like9_any (B b g h : Nat) (v : Value) (l : List Bk) (w : World) (H : ArenaAt w b g h l) (ho : OwnD w B v l) :
    Calls Try.prog 23 #[.pointer (some ⟨b, 0, none⟩), v] w fun e w' => e = .returned (.bool true) ∧ Below w.heap.size w w' := by
  obtain ⟨g2, c, rfl, hc, hcm, _, _⟩ := ho.open
  have hl := H.len
  have HS := Lib.hid (fun W j (hb : Below w.heap.size w W) hj => state_in b g h l j W (H.below hb) hj)
  have HSO := Lib.hid (fun W i (hb : Below w.heap.size w W) hi => state_out _ l.length i W (aLen_any b g h l W (H.below hb)) hi)
  have HOP := Lib.hid (fun W j (hb : Below w.heap.size w W) (hj : j < l.length) => (show W.cell? ⟨g2, j * 3, none⟩ = some (.int .i64 (st l j : Nat)) ∧ W.cell? ⟨g2, j * 3 + 1, none⟩ = some (.int .u64 (gn l j : Nat)) ∧ W.cell? ⟨g2, j * 3 + 2, none⟩ = some (.int .i64 (xx l j)) from by
    obtain ⟨g', c', e, _, _, hs, _⟩ := (ho.below hb).open
    injection e with e1 e2 e3
    injection e1 with e1
    injection e1 with e1 _ _
    subst e1
    exact hs j hj))
  have HLEN := Lib.hid (fun W (hb : Below w.heap.size w W) => aLen_any b g h l W (H.below hb))
  have HUSED := Lib.hid (fun W (hb : Below w.heap.size w W) => used_any b g h l W (H.below hb))
  have HWD := Lib.hid (fun W (hb : Below w.heap.size w W) => withdrawn_any b g h l W (H.below hb))
  have HM := Lib.hid (fun s W (hb : Below w.heap.size w W) => dmany_any B _ l s W (ho.below hb) hl.2)
  have HM1 := Lib.hid (HM.out 1)
  have HM2 := Lib.hid (HM.out 2)
  clear H ho HM
  generalize manyB l 1 = m1 at *
  generalize manyB l 2 = m2 at *
  generalize l.length = n at *
  have e0 : ((n : Int) == (n : Int)) = true := by simp
  have e1 : ((m1 : Int) == (m1 : Int)) = true := by simp
  have e2 : ((m2 : Int) == (m2 : Int)) = true := by simp
  go_enter Try.func23, Try.ntmps23
  go_wp2
  go_loopw [18] (fun s wr => ∃ i : Nat, s = .int .i64 i ∧ i ≤ n ∧ Hid (Below w.heap.size w wr)) (fun s _ => n - (intOf s).toNat)
  case atStart => exact ⟨0, rfl, Nat.zero_le _, Lib.hid (Below.refl _ _)⟩
  case round =>
    obtain ⟨i, rfl, hi, hb⟩ := hrel
    by_cases hlt : i < n
    · have hcs := HOP.out wr i hb.out hlt
      have k1 := hcs.1
      have k2 := hcs.2.1
      have k3 := hcs.2.2
      have hlt' : (i : Int) < n := by omega
      have HSI := Lib.hid (fun o => HS.out (wr.alloc o) i (hb.out.alloc hb.out.size _) hlt)
      have HB2 := Lib.hid (fun o => hb.out.alloc hb.out.size o)
      clear hcs
      generalize st l i = x at *
      generalize gn l i = y at *
      generalize xx l i = z at *
      have HBK := Lib.hid (Blk.new wr 49 #[.int .i64 x, .int .u64 y, .int .i64 z])
      have e3 : ((x : Int) != (x : Int)) = false := by simp
      have e4 : ((y : Int) != (y : Int)) = false := by simp
      go_wp2_with fail
      refine (HSI.out _).mono ?_
      rintro e w2 ⟨rfl, hb2⟩
      have HB3 := Lib.hid ((HB2.out _).trans (hb2.mono (HB2.out _).size))
      have q1 := ((HBK.out.below hb2).cell 0).trans rfl
      have q2 := ((HBK.out.below hb2).cell 1).trans rfl
      clear hb2
      go_wp2
      go_roundw
      case rel => exact ⟨i + 1, by go_num, by omega, HB3⟩
      case measure => simp [intOf]; omega
    · obtain rfl : i = n := by omega
      have HSA := Lib.hid (HSO.out wr (i : Int) hb.out (by omega))
      have HSB := Lib.hid (HSO.out wr (-1) hb.out (by omega))
      go_wp2_with fail
      refine HSA.out.mono ?_
      rintro e w2 ⟨rfl, rfl⟩
      go_wp2_with fail
      refine HSB.out.mono ?_
      rintro e w2 ⟨rfl, rfl⟩
      go_wp2_with fail
      refine (HLEN.out _ hb.out).mono ?_
      rintro e w2 ⟨rfl, rfl⟩
      go_wp2_with fail
      refine (HUSED.out _ hb.out).mono ?_
      rintro e w2 ⟨rfl, hb2⟩
      have HB2 := Lib.hid (hb.out.trans (hb2.mono hb.out.size))
      clear hb2
      go_wp2_with fail
      refine (HM1.out _ HB2.out).mono ?_
      rintro e w3 ⟨rfl, rfl⟩
      go_wp2_with fail
      refine (HWD.out _ HB2.out).mono ?_
      rintro e w3 ⟨rfl, hb3⟩
      have HB3 := Lib.hid (HB2.out.trans (hb3.mono HB2.out.size))
      clear hb3
      go_wp2_with fail
      refine (HM2.out _ HB3.out).mono ?_
      rintro e w4 ⟨rfl, rfl⟩
      go_wp2
      go_ret
      exact ⟨rfl, HB3.out⟩
end Go.Proofs.Ytlbafmmeglafhaa
