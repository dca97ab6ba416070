/- bowerref08.Write; bowerlaw08.like and lives. Condition: words and versions are words. -/
import Derived.Test.YtjkfecfldnhfiaaCellOps
namespace Go.Proofs.Ytjkfecfldnhfiaa
open Go.RowKit

theorem infoCell : (Try.prog.info? 50).map (fun i => (i.zero, i.size, i.bytes)) = some (some (.agg #[.int .u64 0, .int .u64 0]), 2, 16) := by kernel_rfl

/-- A row of the document's cells of the call's own. -/
structure OwnC (w : World) (B : Nat) (v : Value) (l : List (Nat × Nat)) : Prop where
  own : ∃ h c cur, v = .slice (some ⟨h, 0, none⟩) l.length c ∧ B ≤ h ∧ Blk w h 50 cur ∧ l.length ≤ c ∧ c ≤ 9223372036854775807 ∧ cur.size = c * 2 ∧ cur.toList.take (l.length * 2) = cc l

section
variable {w w' : World} {B : Nat} {v : Value} {l : List (Nat × Nat)}
theorem OwnC.of (h : w.ownsRow B 50 2 v l.length (cc l)) (hn : v ≠ .slice none 0 0) : OwnC w B v l := by
  rcases h.2 with ⟨rfl, _⟩ | ⟨g, cap, cur, rfl, hb, hg, hnc, hm, hs, ht⟩
  · exact absurd rfl hn
  · exact ⟨g, cap, cur, rfl, hb, hg, hnc, by unfold maxLen at hm; omega, hs, ht⟩
theorem OwnC.below (h : OwnC w B v l) (hb : Below w.heap.size w w') : OwnC w' B v l := by
  obtain ⟨g, c, cur, h1, h2, h3, h4⟩ := h
  exact ⟨g, c, cur, h1, h2, h3.below hb, h4⟩
theorem OwnC.keep {g : Nat} {t : TypeId} {cs : Array Value} (h : OwnC w B v l) (hk : Keep (fun k => k = g) w w') (hg : Blk w g t cs) (ht : t ≠ 50) : OwnC w' B v l := by
  obtain ⟨h0, c, cur, h1, h2, h3, h4⟩ := h
  exact ⟨h0, c, cur, h1, h2, h3.keep hk (fun e => (hg.ne_ h3 ht) e.symm), h4⟩
theorem OwnC.base {C : Nat} (h : OwnC w C v l) (hB : B ≤ C) : OwnC w B v l := by
  obtain ⟨g, c, cur, h1, h2, h3, h4⟩ := h
  exact ⟨g, c, cur, h1, by omega, h3, h4⟩
/-- Opened. -/
theorem OwnC.open (h : OwnC w B v l) : ∃ g c, v = .slice (some ⟨g, 0, none⟩) l.length c ∧ l.length ≤ c ∧ c ≤ 9223372036854775807 ∧ (∀ j, j < l.length → w.cell? ⟨g, j * 2, none⟩ = some (.int .u64 (wd l j : Nat)) ∧ w.cell? ⟨g, j * 2 + 1, none⟩ = some (.int .u64 (vr l j : Nat))) ∧ ∀ j v, (cc l)[j]? = some v → w.cell? ((⟨g, 0, none⟩ : Addr).add j) = some v := by
  obtain ⟨g, c, cur, h1, h2, h3, h4, h5, h6, h7⟩ := h
  have hc : ∀ j, j < l.length * 2 → w.cell? ⟨g, j, none⟩ = (cc l)[j]? := fun j hj => by
    rw [h3.cell, ← h7, List.getElem?_take_of_lt hj]; simp
  refine ⟨g, c, h1, h4, h5, fun j hj => ?_, fun j v hv => ?_⟩
  · have := cc_get l j hj
    rw [wd_eq hj] at this
    exact ⟨(hc _ (by omega)).trans this.1, (hc _ (by omega)).trans this.2⟩
  · have hj : j < l.length * 2 := by
      have := (List.getElem?_eq_some_iff.1 hv).1
      rwa [cc_len] at this
    have hadd : (⟨g, 0, none⟩ : Addr).add j = ⟨g, j, none⟩ := by
      by_cases e : j = 0
      · subst e; simp [Addr.add]
      · simp [Addr.add, e]
    rw [hadd, hc j hj]
    exact hv
/-- A write into it. -/
theorem OwnC.set {g c : Nat} (h : OwnC w B (.slice (some ⟨g, 0, none⟩) l.length c) l) (j a x : Nat) : OwnC ((w.setCell ⟨g, j * 2, none⟩ (.int .u64 a)).setCell ⟨g, j * 2 + 1, none⟩ (.int .u64 x)) B (.slice (some ⟨g, 0, none⟩) l.length c) (l.set j (a, x)) := by
  obtain ⟨g', c', cur, h1, h2, h3, h4, h5, h6, h7⟩ := h
  injection h1 with e1 e2 e3
  injection e1 with e1
  injection e1 with e1 _ _
  subst e1 e3
  refine ⟨g, c, _, by rw [List.length_set], h2, (h3.set_ _ _).set_ _ _, by rw [List.length_set]; exact h4, h5, by simpa using h6, ?_⟩
  rw [List.length_set, Array.toList_setIfInBounds, Array.toList_setIfInBounds, ← cc_set, ← h7, List.take_set, List.take_set]
theorem OwnC.frozen {g c : Nat} (h : OwnC w B (.slice (some ⟨g, 0, none⟩) l.length c) l) (i : Nat) : w.frozen? ⟨g, i, none⟩ = false := by
  obtain ⟨g', c', cur, h1, h2, h3, _⟩ := h
  injection h1 with e1 e2 e3
  injection e1 with e1
  injection e1 with e1 _ _
  subst e1
  exact h3.frozen i
end

theorem OwnC.low {w : World} {B g n c : Nat} {l : List (Nat × Nat)} (h : OwnC w B (.slice (some ⟨g, 0, none⟩) n c) l) : B ≤ g := by
  obtain ⟨g', c', cur, h1, h2, _⟩ := h
  injection h1 with e1 e2 e3
  injection e1 with e1
  injection e1 with e1 _ _
  subst e1
  exact h2

theorem write_mid {w w9 : World} {v9 : Value} {l : List (Nat × Nat)} (hb : Below w.heap.size w (w.alloc (.cells #[] 50)))
    (ho : w9.ownsRow w.heap.size 50 2 v9 (0 + l.length) ([] ++ cc l)) (hg : (w.alloc (.cells #[] 50)).grownBy w9 (Value.slice (some ⟨w.heap.size, 0, none⟩) 0 0).ownBlock)
    (hn : v9 = .slice none 0 0 ↔ (Value.slice (some ⟨w.heap.size, 0, none⟩) 0 0) = .slice none 0 0 ∧ l.length = 0) : OwnC w9 w.heap.size v9 l ∧ Below w.heap.size w w9 := by
  rw [Nat.zero_add, List.nil_append] at ho
  refine ⟨OwnC.of ho (fun e => ?_), hb.grown hg hb.size (fun k hk => ?_)⟩
  · have := (hn.1 e).1
    injection this with e1
    cases e1
  · have : w.heap.size = k := by simpa [Value.ownBlock] using hk
    omega

def WriteGives (w w' : World) (e : Ending) (l : List (Nat × Nat)) : Prop := ∃ v, e = .returned v ∧ OwnC w' w.heap.size v l ∧ Below w.heap.size w w'

set_option maxHeartbeats 2000000 in
theorem write_any (B : Nat) (v : Value) (l : List (Nat × Nat)) (j word : Nat) (w : World) (h : OwnC w B v l) (hj : j < l.length) (hl : l.length ≤ 65536) :
    Calls Try.prog 26 #[v, .int .i64 j, .int .u64 word] w fun e w' => WriteGives w w' e (l.set j (word, ver1 (vr l j))) := by
  obtain ⟨g, c, rfl, hc, hcm, hcs, hsrc⟩ := h.open
  have H := Lib.hid h
  have HSRC := Lib.hid hsrc
  obtain ⟨i0, hi, hz0, hz1, hz2⟩ := info_parts infoCell
  have HI := Lib.hid (And.intro hi (And.intro hz0 (And.intro hz1 hz2)))
  clear h hcs hsrc hi hz0 hz1 hz2
  go_enter Try.func26, Try.ntmps26
  have HW1 := Lib.hid (show Below w.heap.size w (w.alloc (.cells #[] 50)) from (one_alloc w _).2)
  have HNEWS : Hid (∀ j v, (cc l)[j]? = some v → (w.alloc (.cells #[] 50)).cell? ((⟨g, 0, none⟩ : Addr).add j) = some v) := Lib.hid (by
    obtain ⟨g', c', e, _, _, _, hs⟩ := (H.out.below HW1.out).open
    injection e with e1 e2 e3
    injection e1 with e1
    injection e1 with e1 _ _
    subst e1
    exact hs)
  have hw1 : IntKind.u64.wrap ((vr l j : Int) + 1) = (ver1 (vr l j) : Nat) := by
    unfold ver1
    rw [IntKind.wrap_u64]; omega
  have hj' : (j : Int) < l.length := by omega
  generalize ver1 (vr l j) = y1 at *
  generalize hy : vr l j = y at *
  have HY := Lib.hid hy
  clear hy
  have HMADE := Lib.hid (World.ownsRow_made (base := w.heap.size) (e := 50) (size := 2) w #[] 0 (Nat.le_refl _) (by unfold maxLen; omega) rfl)
  go_wp2_with ((with_reducible show wpList _ _ _ (⟨some 10, _, _, _, _, _⟩ :: _) _ _); refine wpList_append_own _ rfl (.tmp 8) (.tmp 9) 45 rfl w.heap.size 50 i0 (.agg #[.int .u64 0, .int .u64 0]) 2 16 Try.underlying45 HI.out.1 HI.out.2.1 HI.out.2.2.1 HI.out.2.2.2 rfl (by decide) _ 0 [] rfl HMADE.out ⟨g, 0, none⟩ l.length c (cc l) rfl (cc_len l) HNEWS.out (cc_one l) (by unfold maxLen; omega) (by omega) HW1.out.size ?_; intro v9 w9 hown9 hgrow9 hnil9; have HO9 := Lib.hid (write_mid HW1.out hown9 hgrow9 hnil9); clear hown9 hgrow9 hnil9; obtain ⟨g9, c9, rfl, hc9, hcm9, hcs9, _⟩ := HO9.out.1.open; have k2 := (hcs9 j hj).2; have k1 := (hcs9 j hj).1; rw [HY.out] at k2; generalize wd l j = x at *; have f1 := HO9.out.1.frozen (j * 2); have f2 := HO9.out.1.frozen (j * 2 + 1); have HS := Lib.hid (HO9.out.1.set j word y1); clear hcs9; clear HMADE HNEWS)
  go_ret
  exact ⟨_, rfl, HS.out, (HO9.out.2.setCell HO9.out.1.low _).setCell HO9.out.1.low _⟩

set_option maxHeartbeats 2000000 in
theorem like_any (B b g : Nat) (v : Value) (l : List (Nat × Nat)) (w : World) (h : CellsAt w b g l) (ho : OwnC w B v l) :
    Calls Try.prog 29 #[.pointer (some ⟨b, 0, none⟩), v] w fun e w' => e = .returned (.bool true) ∧ Below w.heap.size w w' := by
  obtain ⟨g2, c, rfl, hc, hcm, _, _⟩ := ho.open
  have HL := Lib.hid (cLen_any b g l w h)
  have HLD := Lib.hid (fun W j (hb : Below w.heap.size w W) hj => load_in b g l j W (h.below hb) hj)
  have HOP := Lib.hid (fun W j (hb : Below w.heap.size w W) (hj : j < l.length) => (show W.cell? ⟨g2, j * 2, none⟩ = some (.int .u64 (wd l j : Nat)) ∧ W.cell? ⟨g2, j * 2 + 1, none⟩ = some (.int .u64 (vr l j : Nat)) from by
    obtain ⟨g', c', e, _, _, hs, _⟩ := (ho.below hb).open
    injection e with e1 e2 e3
    injection e1 with e1
    injection e1 with e1 _ _
    subst e1
    exact hs j hj))
  have hl := h.len
  have hne : ((l.length : Int) != (l.length : Int)) = false := by simp
  clear h ho
  generalize l.length = n at *
  go_enter Try.func29, Try.ntmps29
  go_wp2_with fail
  refine HL.out.mono ?_
  rintro e w1 ⟨rfl, rfl⟩
  go_wp2
  go_loopw [17] (fun s wr => ∃ i : Nat, s = .int .i64 i ∧ i ≤ n ∧ Hid (Below w.heap.size w wr)) (fun s _ => n - (intOf s).toNat)
  case atStart => exact ⟨0, rfl, Nat.zero_le _, Lib.hid (Below.refl _ _)⟩
  case round =>
    obtain ⟨i, rfl, hi, hb⟩ := hrel
    by_cases hlt : i < n
    · have hcs := HOP.out wr i hb.out hlt
      have k1 := hcs.1
      have k2 := hcs.2
      have HLI := Lib.hid (fun o => HLD.out (wr.alloc o) i (hb.out.alloc hb.out.size _) hlt)
      have hlt' : (i : Int) < n := by omega
      have HB2 := Lib.hid (fun o => hb.out.alloc hb.out.size o)
      clear hcs
      generalize wd l i = x at *
      generalize vr l i = y at *
      have e1 : ((x : Int) != (x : Int)) = false := by simp
      have e2 : ((y : Int) != (y : Int)) = false := by simp
      go_wp2_with fail
      refine (HLI.out _).mono ?_
      rintro e w2 ⟨rfl, n2, rfl⟩
      go_wp2
      go_roundw
      case rel => exact ⟨i + 1, by go_num, by omega, Lib.hid ((HB2.out _).trans (Drew.below ⟨_, rfl⟩ _))⟩
      case measure => simp [intOf]; omega
    · obtain rfl : i = n := by omega
      go_wp2
      go_ret
      exact ⟨rfl, hb.out⟩
end Go.Proofs.Ytjkfecfldnhfiaa
