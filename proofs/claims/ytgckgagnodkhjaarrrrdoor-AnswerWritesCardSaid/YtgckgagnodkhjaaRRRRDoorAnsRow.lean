/- answer.several: so many pairs are read. Condition: as of pair_any; no cell of the row's is a byte. -/
import Derived.Test.YtgckgagnodkhjaaRRRRDoorAnsPair
import Derived.Test.YtgckgagnodkhjaaRRRRDoorPairRef
namespace Go.Proofs.YtgckgagnodkhjaaRRRRDoor
open Go.RowKit

/-- No cell of a row's block is a byte. -/
def nb (u : Value) : Prop := ∀ x, u ≠ .int .u8 x
def CleanRow (w : World) (v : Value) : Prop := ∀ g n cap, v = .slice (some ⟨g, 0, none⟩) n cap → ∀ cur e fr, w.heap[g]? = some (.cells cur e fr) → ∀ u ∈ cur.toList, nb u

theorem mem_zero {z : Array Value} {k : Nat} {u : Value} (h : u ∈ (Builtin.zeroCells z k).toList) : u ∈ z.toList := by
  unfold Builtin.zeroCells at h
  simp only [Array.toList_map, Array.toList_range, List.mem_map, List.mem_range] at h
  obtain ⟨j, hj, rfl⟩ := h
  have hz : 0 < z.size := by
    rcases Nat.eq_zero_or_pos z.size with e | e
    · rw [e] at hj; omega
    · exact e
  have hlt := Nat.mod_lt j hz
  rw [getElem!_pos z _ hlt]
  exact Array.mem_toList_iff.2 (Array.getElem_mem hlt)

theorem append_clean {P : Program} (w : World) (base : Nat) (t ty e : TypeId) (i : TypeInfo) (z : Value) (size bytes : Nat) (ht : P.underlying t = some (.slice e)) (hi : P.info? e = some i) (hz : i.zero = some z)
    (hsize : i.size = size) (hby : i.bytes = bytes) (hzs : z.cells.size = size) (hsz : 0 < size)
    (v : Value) (n : Nat) (xs : List Value) (hown : w.ownsRow base e size v n xs)
    (a : Addr) (m c : Nat) (news : List Value) (hl : news.length = m * size) (hnews : ∀ j u, news[j]? = some u → w.cell? (a.add j) = some u) (h1 : ∀ u ∈ news, u.oneCell' = true)
    (h63 : n + m ≤ maxLen) (hbytes : (n + m) * bytes ≤ 140737488355328) (hbase : base ≤ w.heap.size) (hm : m ≠ 0)
    (hc : CleanRow w v) (hn : ∀ u ∈ news, nb u) (hzz : ∀ u ∈ z.cells.toList, nb u) :
    ∃ v' w', (Builtin.append_ #[t, t] ty #[v, .slice (some a) m c]).run P w = .ok v' w' ∧ w'.ownsRow base e size v' (n + m) (xs ++ news) ∧ w.grownBy w' v.ownBlock ∧ CleanRow w' v' := by
  obtain ⟨v', w', hrun, r1, r2, _⟩ := run_append_own (P := P) w base t ty e i z size bytes ht hi hz hsize hby hzs hsz v n xs hown a m c news hl hnews h1 h63 hbytes hbase
  refine ⟨v', w', hrun, r1, r2, ?_⟩
  subst hsize
  subst hby
  have hsmall : n + m ≤ 9223372036854775807 := by simp only [maxLen] at h63; omega
  have fresh : ∀ (xs : List Value) (k cp len : Nat), (∀ u ∈ xs, nb u) → v' = .slice (some ⟨w.heap.size, 0, none⟩) len cp → w' = w.drew.alloc (.cells (xs.toArray ++ news.toArray ++ Builtin.zeroCells z.cells k) e) → CleanRow w' v' := by
    intro xs k cp len hx hv hw g n2 cap2 hv2 cur e2 fr hcur u hu
    rw [hv] at hv2
    injection hv2 with e1 _ _
    injection e1 with e1
    injection e1 with e1 _ _
    subst e1
    rw [hw] at hcur
    rw [show (w.drew.alloc (.cells (xs.toArray ++ news.toArray ++ Builtin.zeroCells z.cells k) e)).heap[w.heap.size]? = _ from heap_alloc_new w.drew _] at hcur
    injection hcur with hcur
    injection hcur with hcur _ _
    subst hcur
    simp only [Array.toList_append, List.mem_append] at hu
    rcases hu with (hu | hu) | hu
    · exact hx u hu
    · exact hn u hu
    · exact hzz u (mem_zero hu)
  rcases hown.2 with ⟨rfl, rfl⟩ | ⟨g, cap, cur, rfl, hbg, hg, hnc, hcm, hcs, htake⟩
  · have hx : xs = [] := List.eq_nil_of_length_eq_zero (by simpa using hown.1)
    subst hx
    have hr := run_append_nil (P := P) w t ty e i z ht hi hz a m c news hl hnews (by omega) (by omega) (by have hb := hbytes; simp only [Nat.zero_add] at hb; omega)
    rw [hr] at hrun
    injection hrun with e1 e2
    exact fresh [] (grownCap w m 0 e - m) _ _ (by simp) e1.symm (by rw [← e2]; simp)
  · by_cases hroom : n + m ≤ cap
    · have hfit : n * i.size + news.length ≤ cur.size := by rw [hl, hcs, ← Nat.add_mul]; exact Nat.mul_le_mul_right _ hroom
      have hr := run_append_room (P := P) w t ty e i ht hi g n cap cur hg a m c news hl hnews h1 hroom hfit
      rw [hr] at hrun
      injection hrun with e1 e2
      intro g2 n2 cap2 hv2 cur2 e3 fr hcur u hu
      rw [← e1] at hv2
      injection hv2 with f1 _ _
      injection f1 with f1
      injection f1 with f1 _ _
      subst f1
      rw [← e2, setRow_heap w g cur _ e _ hg] at hcur
      injection hcur with hcur
      injection hcur with hcur _ _
      subst hcur
      have hcl := hc g n cap rfl cur e _ hg
      simp only [List.mem_append] at hu
      rcases hu with (hu | hu) | hu
      · exact hcl u (List.mem_of_mem_take hu)
      · exact hn u hu
      · exact hcl u (List.mem_of_mem_drop hu)
    · have holds : ∀ j u, xs[j]? = some u → w.cell? ((⟨g, 0, none⟩ : Addr).add j) = some u := hown.cells (g := g) rfl
      have hr := run_append_grow (P := P) w t ty e i z ht hi hz ⟨g, 0, none⟩ n cap xs hown.1 holds a m c news hl hnews (by omega) (by omega) (growslice_fits (by omega) hbytes)
      rw [hr] at hrun
      injection hrun with e1 e2
      have hcl := hc g n cap rfl cur e _ hg
      exact fresh xs _ _ _ (fun u hu => hcl u (List.mem_of_mem_take (htake ▸ hu))) e1.symm e2.symm
end Go.Proofs.YtgckgagnodkhjaaRRRRDoor
