/- sorted.Add, Cut at uint64, beside Part: what they answer, in new memory; nothing that was there has turned. Condition: rows of at most 2^38 elements. -/
import Derived.Test.YtlcnnnljdffbmaaPartU64
import Derived.Deep.RegionHeldLaw
import Derived.Deep.RegionWith
namespace Go.Proofs.Ytlcnnnljdffbmaa
open Go.RowKit

theorem one_ofU64 (xs : List Value) (h : ∀ u ∈ xs, u.oneCell' = true) (n : Nat) : (∀ u ∈ xs.take n, u.oneCell' = true) ∧ (∀ u ∈ xs.drop n, u.oneCell' = true) :=
  ⟨fun u hu => h u (List.mem_of_mem_take hu), fun u hu => h u (List.mem_of_mem_drop hu)⟩

/-- The rows' block and the new one's, where laid is called. -/
theorem laidU64_three (w : World) (x v1 v3 : Value) (xs1 xs3 : List Value) (h1 : Rd w v1 xs1) (h3 : Rd w v3 xs3) (o1 : ∀ u ∈ xs1, u.oneCell' = true) (o3 : ∀ u ∈ xs3, u.oneCell' = true) (ox : x.oneCell' = true) (hl : xs1.length + xs3.length ≤ 549755813888)
    (W : World) (k1 : W.heap[w.heap.size]? = some (.cells #[x] 50 (0, 0))) (k2 : W.heap[w.heap.size + 1]? = some (.cells #[v1, .slice (some ⟨w.heap.size, 0, none⟩) 1 1, v3] 23 (0, 0))) (hb : Below w.heap.size w W) :
    Calls Try.prog 126 #[.slice (some ⟨w.heap.size + 1, 0, none⟩) 3 3] W fun e w' => LaidU64 W w' e (xs1 ++ x :: xs3) := by
  have := laidU64_any (w.heap.size + 1) 3 [(v1, xs1), (.slice (some ⟨w.heap.size, 0, none⟩) 1 1, [x]), (v3, xs3)] rfl W (fun i hi => ?_) (fun i hi => ?_) (by omega) (by simp; omega)
  · simpa using this
  · have hx : Whole W 50 w.heap.size [x] := k1
    have hc : ∀ j, W.cell? ⟨w.heap.size + 1, j, none⟩ = #[v1, .slice (some ⟨w.heap.size, 0, none⟩) 1 1, v3][j]? := fun j => by simp [World.cell?, k2]
    rcases i with _ | _ | _ | i
    · exact ⟨by rw [hc]; rfl, h1.keep hb⟩
    · exact ⟨by rw [hc]; rfl, hx.rd (by simp)⟩
    · exact ⟨by rw [hc]; rfl, h3.keep hb⟩
    · first | (simp at hi; done) | (simp at hi; omega)
  · rcases i with _ | _ | _ | i
    · exact o1
    · intro v hv
      have : v = x := by simpa using hv
      rw [this]; exact ox
    · exact o3
    · first | (simp at hi; done) | (simp at hi; omega)

theorem laidU64_two (w : World) (v1 v3 : Value) (xs1 xs3 : List Value) (h1 : Rd w v1 xs1) (h3 : Rd w v3 xs3) (o1 : ∀ u ∈ xs1, u.oneCell' = true) (o3 : ∀ u ∈ xs3, u.oneCell' = true) (hl : xs1.length + xs3.length ≤ 549755813888)
    (W : World) (k2 : W.heap[w.heap.size]? = some (.cells #[v1, v3] 23 (0, 0))) (hb : Below w.heap.size w W) :
    Calls Try.prog 126 #[.slice (some ⟨w.heap.size, 0, none⟩) 2 2] W fun e w' => LaidU64 W w' e (xs1 ++ xs3) := by
  have := laidU64_any w.heap.size 2 [(v1, xs1), (v3, xs3)] rfl W (fun i hi => ?_) (fun i hi => ?_) (by omega) (by simp; omega)
  · simpa using this
  · have hc : ∀ j, W.cell? ⟨w.heap.size, j, none⟩ = #[v1, v3][j]? := fun j => by simp [World.cell?, k2]
    rcases i with _ | _ | i
    · exact ⟨by rw [hc]; rfl, h1.keep hb⟩
    · exact ⟨by rw [hc]; rfl, h3.keep hb⟩
    · first | (simp at hi; done) | (simp at hi; omega)
  · rcases i with _ | _ | i
    · exact o1
    · exact o3
    · first | (simp at hi; done) | (simp at hi; omega)

def GaveU64 (w w' : World) (e : Ending) (xs : List Value) : Prop := ∃ v, e = .returned (.tuple #[v, .bool true]) ∧ Made w w' 50 v xs

end Go.Proofs.Ytlcnnnljdffbmaa
