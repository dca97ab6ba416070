/- The cells that are known, rising, each once: plain facts. No condition. -/
import Derived.Test.YtefmnfplipdnmaaFrDocs
namespace Go.Proofs.Ytefmnfplipdnmaa
open Go.RowKit Go.Maps

/-- No cell twice, each one that there may be. -/
def KsOk (ks : List Kn) : Prop := (ks.map Kn.c).Nodup ∧ ∀ k ∈ ks, cellB k.c = true
theorem KsOk.nil : KsOk [] := ⟨List.nodup_nil, fun _ h => by cases h⟩
theorem KsOk.drop {ks : List Kn} (h : KsOk ks) (c : Int) : KsOk (kdrop ks c) :=
  ⟨(List.filter_sublist.map Kn.c).nodup h.1, fun k hk => h.2 k (List.mem_filter.1 hk).1⟩
theorem KsOk.put {ks : List Kn} (h : KsOk ks) {k : Kn} (hk : cellB k.c = true) : KsOk (kdrop ks k.c ++ [k]) := by
  refine ⟨?_, fun x hx => ?_⟩
  · rw [List.map_append, List.nodup_append]
    refine ⟨(h.drop k.c).1, by simp, fun a ha b hb => ?_⟩
    simp only [List.map_cons, List.map_nil, List.mem_singleton] at hb
    subst hb
    obtain ⟨x, hx, rfl⟩ := List.mem_map.1 ha
    have := (List.mem_filter.1 hx).2
    simpa using this
  · rcases List.mem_append.1 hx with hx | hx
    · exact (h.drop k.c).2 x hx
    · rw [List.mem_singleton.1 hx]; exact hk
theorem kfind_mem (ks : List Kn) (c : Int) : (kfind ks c).isSome = true ↔ c ∈ ks.map Kn.c := by
  unfold kfind
  rw [List.find?_isSome]
  constructor
  · rintro ⟨x, hx, e⟩
    exact List.mem_map.2 ⟨x, hx, by simpa using e⟩
  · intro h
    obtain ⟨x, hx, e⟩ := List.mem_map.1 h
    exact ⟨x, hx, by simpa using e⟩
/-- The cells below i that are known, rising. -/
def cellsTo (ks : List Kn) (i : Nat) : List Int := ((List.range i).map (fun n : Nat => (n : Int))).filter (fun c => (kfind ks c).isSome)
def cellsOf (ks : List Kn) : List Int := cellsTo ks 8192
theorem cellsTo_succ (ks : List Kn) (i : Nat) : cellsTo ks (i + 1) = cellsTo ks i ++ (if (kfind ks (i : Int)).isSome = true then [(i : Int)] else []) := by
  unfold cellsTo
  rw [List.range_succ, List.map_append, List.filter_append]
  congr 1
  simp only [List.map_cons, List.map_nil, List.filter_cons, List.filter_nil]
theorem cellsTo_rise (ks : List Kn) (i : Nat) : (cellsTo ks i).Pairwise (· < ·) := by
  unfold cellsTo
  refine List.Pairwise.sublist List.filter_sublist ?_
  rw [List.pairwise_map]
  refine List.Pairwise.imp ?_ List.pairwise_lt_range
  intro a b h
  omega
theorem cellsOf_mem {ks : List Kn} (h : KsOk ks) (x : Int) : x ∈ cellsOf ks ↔ (kfind ks x).isSome = true := by
  unfold cellsOf cellsTo
  rw [List.mem_filter]
  constructor
  · exact fun h => h.2
  · intro hs
    refine ⟨?_, hs⟩
    obtain ⟨k, hk, rfl⟩ := List.mem_map.1 ((kfind_mem ks x).1 hs)
    have hc := h.2 k hk
    rw [cellB_iff] at hc
    refine List.mem_map.2 ⟨k.c.toNat, List.mem_range.2 (by omega), by omega⟩
theorem rise_nodup {l : List Int} (h : l.Pairwise (· < ·)) : l.Nodup := List.Pairwise.imp (fun h => by omega) h
theorem cellsOf_perm {ks : List Kn} (h : KsOk ks) : (cellsOf ks).Perm (ks.map Kn.c) :=
  (List.perm_ext_iff_of_nodup (rise_nodup (cellsTo_rise ks 8192)) h.1).2 (fun x => (cellsOf_mem h x).trans (kfind_mem ks x))
theorem cellsOf_len {ks : List Kn} (h : KsOk ks) : (cellsOf ks).length = ks.length := by
  rw [(cellsOf_perm h).length_eq, List.length_map]
/-- What rises, has each once, and has just these. -/
theorem cells_eq {ks : List Kn} (h : KsOk ks) {xs : List Int} (hs : xs.Pairwise (· ≤ ·)) (hn : xs.Nodup) (hm : ∀ x, x ∈ xs ↔ (kfind ks x).isSome = true) : xs = cellsOf ks := by
  have hp : xs.Perm (cellsOf ks) := (List.perm_ext_iff_of_nodup hn (rise_nodup (cellsTo_rise ks 8192))).2 (fun x => (hm x).trans (cellsOf_mem h x).symm)
  refine List.Perm.eq_of_pairwise (le := (· ≤ ·)) (fun a b _ _ h1 h2 => by omega) hs ?_ hp
  exact List.Pairwise.imp (fun h => by omega) (cellsTo_rise ks 8192)
theorem cellsTo_pre (ks : List Kn) (i d : Nat) : ∃ r, cellsTo ks (i + d) = cellsTo ks i ++ r := by
  induction d with
  | zero => exact ⟨[], by simp⟩
  | succ d ih =>
    obtain ⟨r, hr⟩ := ih
    exact ⟨_, by rw [← Nat.add_assoc, cellsTo_succ, hr, List.append_assoc]⟩
theorem cellsTo_le {ks : List Kn} (h : KsOk ks) {i : Nat} (hi : i ≤ 8192) : (cellsTo ks i).length ≤ ks.length := by
  obtain ⟨r, hr⟩ := cellsTo_pre ks i (8192 - i)
  have e : i + (8192 - i) = 8192 := by omega
  rw [e] at hr
  rw [← cellsOf_len h, show cellsOf ks = _ from hr, List.length_append]
  omega
theorem cellsTo_all {ks : List Kn} (h : KsOk ks) {i : Nat} (hi : i ≤ 8192) (hl : ks.length ≤ (cellsTo ks i).length) : cellsTo ks i = cellsOf ks := by
  obtain ⟨r, hr⟩ := cellsTo_pre ks i (8192 - i)
  have e : i + (8192 - i) = 8192 := by omega
  rw [e] at hr
  have e2 := cellsOf_len h
  rw [show cellsOf ks = _ from hr, List.length_append] at e2
  have : r = [] := List.eq_nil_of_length_eq_zero (by omega)
  rw [show cellsOf ks = _ from hr, this, List.append_nil]
end Go.Proofs.Ytefmnfplipdnmaa
