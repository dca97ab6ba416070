/- bowerref13.Split and Burst: a node as two, an inner one with an entry more as two, or none. Condition: sizes that fit. bowerref13.Burst: an inner node with an entry more as two, or none. Condition: sizes that fit. -/
import Derived.Test.YtlcnnnljdffbmaaHalvePart2
import Derived.Test.YtlcnnnljdffbmaaHalveBurst2
import Derived.Test.YtlcnnnljdffbmaaInnerRPut
namespace Go.Proofs.Ytlcnnnljdffbmaa
open Go.RowKit

/-- Two nodes are told, and whether. -/
def GaveTwoD (w w' : World) (e : Ending) (b : Bool) (n m : Nod) : Prop :=
  ∃ (ak1 av1 ac1 ak2 av2 ac2 : Option Addr) (ck1 cv1 cc1 ck2 cv2 cc2 : Nat), e = .returned (.tuple #[.agg #[.int .i64 n.lv, .string n.lo, .string n.hi, .bool n.la, .int .i64 n.nx, .slice ak1 n.ks.length ck1, .slice av1 n.vs.length cv1, .slice ac1 n.cs.length cc1], .agg #[.int .i64 m.lv, .string m.lo, .string m.hi, .bool m.la, .int .i64 m.nx, .slice ak2 m.ks.length ck2, .slice av2 m.vs.length cv2, .slice ac2 m.cs.length cc2], .bool b]) ∧ NdAt w' ak1 av1 ac1 n.ks.length ck1 n.vs.length cv1 n.cs.length cc1 n.ks n.vs n.cs ∧ NdAt w' ak2 av2 ac2 m.ks.length ck2 m.vs.length cv2 m.cs.length cc2 m.ks m.vs m.cs ∧ Below w.heap.size w w'
theorem rows_of {lv nx : Int} {lo hi : ByteArray} {la : Bool} {ks : List ByteArray} {vs : List Nat} {cs : List Int} {f : Int} (h : SoundP lv nx lo hi la ks.length vs.length cs.length ks cs f) : (lv = 0 ∧ vs.length = ks.length ∧ cs = []) ∨ (lv ≠ 0 ∧ vs = [] ∧ cs.length = ks.length) := by
  by_cases h0 : lv = 0
  · obtain ⟨e1, e2, _⟩ := h.entries.leaf h0
    exact Or.inl ⟨h0, e1, List.eq_nil_of_length_eq_zero e2⟩
  · obtain ⟨e1, _, e3, _⟩ := h.entries.inner h0
    exact Or.inr ⟨h0, List.eq_nil_of_length_eq_zero e3, e1⟩
theorem GaveTwo.d {w w' : World} {e : Ending} {b : Bool} {n m : Nod} (h : GaveTwo w w' e b n m) : GaveTwoD w w' e b n m := by
  obtain ⟨ak1, av1, ac1, ak2, av2, ac2, ck1, cv1, cc1, ck2, cv2, cc2, h1, h2, h3, h4, _⟩ := h
  exact ⟨ak1, av1, ac1, ak2, av2, ac2, ck1, cv1, cc1, ck2, cv2, cc2, h1, h2, h3, h4⟩

end Go.Proofs.Ytlcnnnljdffbmaa

namespace Go.Proofs.Ytlcnnnljdffbmaa
open Go.RowKit

theorem newAt_lessH {ks : List ByteArray} {low : ByteArray} (hr : Rises ks) (hn : ∀ i, i < ks.length → nth ks i ≠ low) : NewAt ks (placeF ks low) low := newAt_of hr (fun h => hn _ h.1 h.2)
theorem newAt_notH {ks : List ByteArray} {low : ByteArray} {a : Nat} (h : NewAt ks a low) : ∀ i, i < a → lss low.data.toList (nth ks i).data.toList = false := fun i hi => by
  have := h.low i hi
  cases h2 : lss low.data.toList (nth ks i).data.toList with
  | false => rfl
  | true => exact absurd (lss_trans _ _ _ this h2) (by rw [lss_irrefl]; exact fun h => by cases h)
theorem not_there {ks : List ByteArray} {low : ByteArray} (hr : Rises ks) : (¬ thereF ks low) ↔ ∀ i, i < ks.length → nth ks i ≠ low := by
  constructor
  · intro h i hi e
    have hn := newAt_of hr h
    by_cases g : i < placeF ks low
    · have := hn.low i g
      rw [e, lss_irrefl] at this; cases this
    · have := hn.high i (by omega) hi
      rw [e, lss_irrefl] at this; cases this
  · intro h g
    exact h _ g.1 g.2

end Go.Proofs.Ytlcnnnljdffbmaa
