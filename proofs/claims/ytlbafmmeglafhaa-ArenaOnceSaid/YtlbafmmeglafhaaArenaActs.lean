/- Get, Put, Claim of an arena; each also of none. Condition: what an arena has is as New and Claim leave it; words are words. -/
import Derived.Test.YtlbafmmeglafhaaArenaOps
namespace Go.Proofs.Ytlbafmmeglafhaa
open Go.RowKit

theorem at_zero {l : List Bk} {w : Nat} (h : atE l w = 0) : openOk w = true ∧ openP w < l.length ∧ gn l (openP w) = openG w ∧ st l (openP w) = 1 ∧ atP l w = openP w := by
  rcases at_ways l w with ⟨_, h2, _⟩ | ⟨_, _, h2, _⟩ | ⟨_, _, _, h2, _⟩ | ⟨_, _, _, _, h2, _⟩ | ⟨h1, h2, h3, h4, _, h5⟩
  · omega
  · omega
  · omega
  · omega
  · exact ⟨h1, h2, h3, h4, h5.symm⟩

/-- What an act leaves: the uses' block and what is in them have turned. -/
structure AWrote (w w' : World) (b g h : Nat) (l : List Bk) : Prop where
  arena : ArenaAt w' b g h l
  keep : Keep (fun k => k = g ∨ k = h) w w'

theorem AWrote.on {w w1 w2 : World} {b g h : Nat} {l : List Bk} (H : AWrote w w1 b g h l) (hb : Below w1.heap.size w1 w2) : AWrote w w2 b g h l :=
  ⟨H.arena.below hb, H.keep.trans (Keep.of_below hb (fun _ => False)) (fun _ _ h => h.elim)⟩
theorem AWrote.use {w : World} {b g h : Nat} {l : List Bk} (H : ArenaAt w b g h l) (j s v : Nat) (hj : j < l.length) (hp : Fits (s, v, xx l j)) : AWrote w ((w.setCell ⟨g, j * 2, none⟩ (.int .i64 s)).setCell ⟨g, j * 2 + 1, none⟩ (.int .u64 v)) b g h (l.set j (s, v, xx l j)) :=
  ⟨H.setUse j s v hj hp, ((Keep.refl _ w).set (p := ⟨g, j * 2, none⟩) (fun _ => Or.inl rfl) _).set (p := ⟨g, j * 2 + 1, none⟩) (fun _ => Or.inl rfl) _⟩

def getX (l : List Bk) (w : Nat) : Int := if atE l w = 0 then xx l (openP w) else 0

theorem get_zero (v : Value) (word : Nat) (w : World) (hl : Calls Try.prog 13 #[v] w fun e w' => e = .returned (.int .i64 (0 : Nat)) ∧ w = w') :
    Calls Try.prog 11 #[v, .int .u64 word] w fun e w' => e = .returned (.tuple #[.int .i64 0, .int .i64 1]) ∧ w = w' := by
  have HN := Lib.hid (named_zero v word w hl)
  clear hl
  go_enter Try.func11, Try.ntmps11
  go_wp2_with fail
  refine HN.out.mono ?_
  rintro e w1 ⟨rfl, rfl⟩
  go_wp2
  go_ret2
  exact ⟨rfl, rfl⟩
theorem free_zero (v : Value) (word : Nat) (w : World) (hl : Calls Try.prog 13 #[v] w fun e w' => e = .returned (.int .i64 (0 : Nat)) ∧ w = w') :
    Calls Try.prog 12 #[v, .int .u64 word] w fun e w' => e = .returned (.int .i64 1) ∧ w = w' := by
  have HN := Lib.hid (named_zero v word w hl)
  clear hl
  go_enter Try.func12, Try.ntmps12
  go_wp2_with fail
  refine HN.out.mono ?_
  rintro e w1 ⟨rfl, rfl⟩
  go_wp2
  go_ret
  exact ⟨rfl, rfl⟩
theorem claim_zero (v : Value) (i : Int) (w : World) (hl : Calls Try.prog 13 #[v] w fun e w' => e = .returned (.int .i64 (0 : Nat)) ∧ w = w') :
    Calls Try.prog 10 #[v, .int .i64 i] w fun e w' => e = .returned (.tuple #[.int .u64 0, .int .i64 1]) ∧ w = w' := by
  have HN := Lib.hid hl
  clear hl
  go_enter Try.func10, Try.ntmps10
  go_wp2_with fail
  refine HN.out.mono ?_
  rintro e w1 ⟨rfl, rfl⟩
  go_wp2
  go_ret2
  exact ⟨rfl, rfl⟩

set_option maxHeartbeats 2000000 in
theorem get_any (b g h : Nat) (l : List Bk) (word : Nat) (hw : word < 18446744073709551616) (w : World) (H : ArenaAt w b g h l) :
    Calls Try.prog 11 #[.pointer (some ⟨b, 0, none⟩), .int .u64 word] w fun e w' => e = .returned (.tuple #[.int .i64 (getX l word), .int .i64 (atE l word : Nat)]) ∧ Below w.heap.size w w' := by
  have HN := Lib.hid (named_any b g h l word hw w H)
  by_cases hz : atE l word = 0
  · obtain ⟨_, h2, _, _, h5⟩ := at_zero hz
    have HC := Lib.hid (fun W1 (hb : Below w.heap.size w W1) => And.intro (H.below hb).c1 ((H.below hb).has _ h2))
    have HX : Hid (getX l word = xx l (openP word)) := Lib.hid (by unfold getX; rw [if_pos hz])
    have hlen := H.len
    have HZ := Lib.hid hz
    rw [hz, h5] at HN
    have h2' : (openP word : Int) < l.length := by omega
    clear H hw hz h5
    generalize xx l (openP word) = x at *
    generalize openP word = p at *
    generalize l.length = n at *
    go_enter Try.func11, Try.ntmps11
    go_wp2_with fail
    refine HN.out.mono ?_
    rintro e w1 ⟨rfl, hb⟩
    obtain ⟨c0, c1⟩ := HC.out _ hb
    have HB := Lib.hid hb
    clear hb
    go_wp2
    go_ret2
    exact ⟨by rw [HX.out, HZ.out]; rfl, HB.out⟩
  · have HX : Hid (getX l word = 0) := Lib.hid (by unfold getX; rw [if_neg hz])
    have hne : ((atE l word : Int) != 0) = true := by rw [bne_iff_ne]; omega
    clear H hw hz
    generalize atE l word = ae at *
    go_enter Try.func11, Try.ntmps11
    go_wp2_with fail
    refine HN.out.mono ?_
    rintro e w1 ⟨rfl, hb⟩
    have HB := Lib.hid hb
    clear hb
    go_wp2
    go_ret2
    exact ⟨by rw [HX.out]; rfl, HB.out⟩

def putL (l : List Bk) (w : Nat) (x : Int) : List Bk := if atE l w = 0 then l.set (openP w) (st l (openP w), gn l (openP w), x) else l

set_option maxHeartbeats 2000000 in
theorem put_any (b g h : Nat) (l : List Bk) (word : Nat) (hw : word < 18446744073709551616) (x : Int) (hx : -9223372036854775808 ≤ x ∧ x ≤ 9223372036854775807) (w : World) (H : ArenaAt w b g h l) :
    Calls Try.prog 20 #[.pointer (some ⟨b, 0, none⟩), .int .u64 word, .int .i64 x] w fun e w' => e = .returned (.int .i64 (atE l word : Nat)) ∧ AWrote w w' b g h (putL l word x) := by
  have HN := Lib.hid (named_any b g h l word hw w H)
  by_cases hz : atE l word = 0
  · obtain ⟨_, h2, _, hst, h5⟩ := at_zero hz
    have hf := H.fits _ h2
    have HC := Lib.hid (fun W1 (hb : Below w.heap.size w W1) => And.intro (H.below hb).c1 (And.intro ((H.below hb).has _ h2) ((H.below hb).held.frozen (openP word))))
    have HS := Lib.hid (fun W1 (hb : Below w.heap.size w W1) => (H.below hb).setHeld _ x h2 ⟨hf.1, hf.2.1, ⟨hf.2.2.1.1, fun hne => absurd hst hne⟩, hx⟩)
    have HX : Hid (putL l word x = l.set (openP word) (st l (openP word), gn l (openP word), x)) := Lib.hid (by unfold putL; rw [if_pos hz])
    have hlen := H.len
    have HZ := Lib.hid hz
    rw [hz, h5] at HN
    have h2' : (openP word : Int) < l.length := by omega
    clear H hw hz h5 hf hx hst
    generalize xx l (openP word) = y at *
    generalize l.set (openP word) (st l (openP word), gn l (openP word), x) = l' at *
    generalize openP word = p at *
    generalize l.length = n at *
    go_enter Try.func20, Try.ntmps20
    go_wp2_with fail
    refine HN.out.mono ?_
    rintro e w1 ⟨rfl, hb⟩
    obtain ⟨c0, c1, f1⟩ := HC.out _ hb
    have HB := Lib.hid hb
    clear hb
    go_wp2
    go_ret
    exact ⟨by rw [HZ.out]; rfl, by rw [HX.out]; exact HS.out _ HB.out, (Keep.of_below HB.out _).set (fun _ => Or.inr rfl) _⟩
  · have HX : Hid (putL l word x = l) := Lib.hid (by unfold putL; rw [if_neg hz])
    have hne : ((atE l word : Int) != 0) = true := by rw [bne_iff_ne]; omega
    have HA := Lib.hid (fun W1 (hb : Below w.heap.size w W1) => H.below hb)
    clear H hw hz
    generalize atE l word = ae at *
    go_enter Try.func20, Try.ntmps20
    go_wp2_with fail
    refine HN.out.mono ?_
    rintro e w1 ⟨rfl, hb⟩
    have HB := Lib.hid hb
    clear hb
    go_wp2
    go_ret
    exact ⟨rfl, by rw [HX.out]; exact HA.out _ HB.out, Keep.of_below HB.out _⟩

/-- What a claim tells, and leaves. -/
def clE (l : List Bk) (i : Int) : Nat := if inB i l.length = true then (if st l i.toNat = 1 then 24 else if st l i.toNat = 2 then 22 else 0) else 20
def clW (l : List Bk) (i : Int) : Nat := if clE l i = 0 then packW i (gn l i.toNat + 1) else 0
def clL (l : List Bk) (i : Int) : List Bk := if clE l i = 0 then l.set i.toNat (1, gn l i.toNat + 1, xx l i.toNat) else l

theorem claim_out (b g h : Nat) (l : List Bk) (i : Int) (w : World) (H : ArenaAt w b g h l) (hi : ¬ (0 ≤ i ∧ i < l.length)) :
    Calls Try.prog 10 #[.pointer (some ⟨b, 0, none⟩), .int .i64 i] w fun e w' => e = .returned (.tuple #[.int .u64 0, .int .i64 20]) ∧ w = w' := by
  have hh := has_len _ l.length i w (aLen_any b g h l w H)
  rw [bool_not (inB_iff i l.length) hi] at hh
  have HH := Lib.hid hh
  have HL := Lib.hid (aLen_any b g h l w H)
  have hlen := H.len
  have hz : ((l.length : Int) == 0) = false := beq_eq_false_iff_ne.2 (by omega)
  clear hh H hi
  generalize l.length = n at *
  go_enter Try.func10, Try.ntmps10
  go_wp2_with fail
  refine HL.out.mono ?_
  rintro e w1 ⟨rfl, rfl⟩
  go_wp2_with fail
  refine HH.out.mono ?_
  rintro e w1 ⟨rfl, rfl⟩
  go_wp2
  go_ret2
  exact ⟨rfl, rfl⟩

set_option maxHeartbeats 2000000 in
theorem claim_no (b g h : Nat) (l : List Bk) (j : Nat) (w : World) (H : ArenaAt w b g h l) (hj : j < l.length) (ae : Nat) (hs : st l j = 1 ∧ ae = 24 ∨ st l j = 2 ∧ ae = 22) :
    Calls Try.prog 10 #[.pointer (some ⟨b, 0, none⟩), .int .i64 j] w fun e w' => e = .returned (.tuple #[.int .u64 0, .int .i64 ae]) ∧ Below w.heap.size w w' := by
  have hh := has_len _ l.length j w (aLen_any b g h l w H)
  rw [(inB_iff j l.length).2 ⟨by omega, by omega⟩] at hh
  have HH := Lib.hid hh
  have HL := Lib.hid (aLen_any b g h l w H)
  have hlen := H.len
  have hz : ((l.length : Int) == 0) = false := beq_eq_false_iff_ne.2 (by omega)
  have c0 := H.c0
  have c1 := H.state j hj
  have c2 := H.gen j hj
  have hj' : (j : Int) < l.length := by omega
  have HB := Lib.hid (fun o => (one_alloc w o).2)
  clear hh H
  generalize l.length = n at *
  generalize gn l j = x at *
  rcases hs with ⟨e1, rfl⟩ | ⟨e1, rfl⟩
  all_goals
    rw [e1] at c1
    clear e1
    go_enter Try.func10, Try.ntmps10
    go_wp2_with fail
    refine HL.out.mono ?_
    rintro e w1 ⟨rfl, rfl⟩
    go_wp2_with fail
    refine HH.out.mono ?_
    rintro e w1 ⟨rfl, rfl⟩
    go_wp2
    go_ret2
    exact ⟨rfl, HB.out _⟩

set_option maxHeartbeats 8000000 in
theorem claim_yes (b g h : Nat) (l : List Bk) (j : Nat) (w : World) (H : ArenaAt w b g h l) (hj : j < l.length) (hs : st l j = 0) :
    Calls Try.prog 10 #[.pointer (some ⟨b, 0, none⟩), .int .i64 j] w fun e w' => e = .returned (.tuple #[.int .u64 (packW j (gn l j + 1) : Nat), .int .i64 0]) ∧ AWrote w w' b g h (l.set j (1, gn l j + 1, xx l j)) := by
  have hh := has_len _ l.length j w (aLen_any b g h l w H)
  rw [(inB_iff j l.length).2 ⟨by omega, by omega⟩] at hh
  have HH := Lib.hid hh
  have HL := Lib.hid (aLen_any b g h l w H)
  have hlen := H.len
  have hz : ((l.length : Int) == 0) = false := beq_eq_false_iff_ne.2 (by omega)
  have c0 := H.c0
  have c1 := H.state j hj
  have c2 := H.gen j hj
  have f1 := H.row.frozen (j * 2)
  have f2 := H.row.frozen (j * 2 + 1)
  have hj' : (j : Int) < l.length := by omega
  have hf := H.fits j hj
  rw [hs] at c1 hf
  obtain ⟨_, hg1, hg2, hg3⟩ := hf
  have hg : gn l j + 1 ≤ 4294967295 := by have := hg2.1 rfl; simp at hg1 this; omega
  have HW := Lib.hid (fun W => pack_any j (gn l j + 1) (by omega) (by omega) W)
  have HA := Lib.hid ((AWrote.use H j 1 (gn l j + 1) hj ⟨by simp, hg, by simp, hg3⟩).on ((one_alloc _ (.cells #[.int .i64 0, .int .u64 (gn l j : Nat)] 73)).2.drew))
  have hwr : IntKind.u64.wrap ((gn l j : Int) + 1) = ((gn l j + 1 : Nat) : Int) := by rw [IntKind.wrap_u64]; omega
  have hbs := H.blk.lt
  have hgs := H.row.lt
  clear hh H hs hg1 hg2 hg3
  generalize l.set j (1, gn l j + 1, xx l j) = l' at *
  generalize packW j (gn l j + 1) = pw at *
  generalize l.length = n at *
  generalize gn l j + 1 = y at *
  generalize gn l j = x at *
  go_enter Try.func10, Try.ntmps10
  go_wp2_with fail
  refine HL.out.mono ?_
  rintro e w1 ⟨rfl, rfl⟩
  go_wp2_with fail
  refine HH.out.mono ?_
  rintro e w1 ⟨rfl, rfl⟩
  go_wp2
  go_region
  go_wp2_with fail
  refine (HW.out _).mono ?_
  rintro e w2 ⟨rfl, hb⟩
  have HA2 := Lib.hid (HA.out.on hb)
  clear hb
  go_wp2
  go_ret2
  exact ⟨rfl, HA2.out⟩

theorem claim_any (b g h : Nat) (l : List Bk) (i : Int) (w : World) (H : ArenaAt w b g h l) :
    Calls Try.prog 10 #[.pointer (some ⟨b, 0, none⟩), .int .i64 i] w fun e w' => e = .returned (.tuple #[.int .u64 (clW l i : Nat), .int .i64 (clE l i : Nat)]) ∧ AWrote w w' b g h (clL l i) := by
  by_cases hi : 0 ≤ i ∧ i < l.length
  · obtain ⟨j, rfl⟩ : ∃ j : Nat, i = j := ⟨i.toNat, by omega⟩
    have hj : j < l.length := by omega
    have hin := (inB_iff j l.length).2 hi
    have hf := H.fits j hj
    by_cases h0 : st l j = 0
    · have he : clE l j = 0 := by unfold clE; rw [if_pos hin, Int.toNat_natCast, if_neg (by omega), if_neg (by omega)]
      have hw : clW l j = packW j (gn l j + 1) := by unfold clW; rw [if_pos he, Int.toNat_natCast]
      have hl : clL l j = l.set j (1, gn l j + 1, xx l j) := by unfold clL; rw [if_pos he, Int.toNat_natCast]
      rw [he, hw, hl]
      exact claim_yes b g h l j w H hj h0
    · have hs : st l j = 1 ∧ clE l j = 24 ∨ st l j = 2 ∧ clE l j = 22 := by
        unfold clE
        rw [if_pos hin, Int.toNat_natCast]
        have := hf.1
        simp at this
        by_cases h1 : st l j = 1
        · exact Or.inl ⟨h1, if_pos h1⟩
        · exact Or.inr ⟨by omega, by rw [if_neg h1, if_pos (by omega)]⟩
      have hne : clE l j ≠ 0 := by omega
      have hw : clW l j = 0 := by unfold clW; rw [if_neg hne]
      have hl : clL l j = l := by unfold clL; rw [if_neg hne]
      rw [hw, hl]
      refine (claim_no b g h l j w H hj (clE l j) hs).mono ?_
      rintro e w' ⟨rfl, hb⟩
      exact ⟨rfl, H.below hb, Keep.of_below hb _⟩
  · have he : clE l i = 20 := by unfold clE; rw [bool_not (inB_iff i l.length) hi]; rfl
    have hw : clW l i = 0 := by unfold clW; rw [if_neg (by omega)]
    have hl : clL l i = l := by unfold clL; rw [if_neg (by omega)]
    rw [he, hw, hl]
    refine (claim_out b g h l i w H hi).mono ?_
    rintro e w' ⟨rfl, rfl⟩
    exact ⟨rfl, H, Keep.refl _ _⟩
end Go.Proofs.Ytlbafmmeglafhaa
