/- bowerref10.Sound: whether a node is sound, as the document says. Condition: texts of at most 2^47 bytes, at most 2^38 keys. -/
import Derived.Test.YtgaacoeggikbpaaNodeCheck2
namespace Go.Proofs.Ytgaacoeggikbpaa
open Go.RowKit

/-- The keys so far, in the range, and keys where they should be. -/
def KeySo (lv : Int) (lo hi : ByteArray) (la : Bool) (ks : List ByteArray) (i : Nat) : Prop := insideB lo.data.toList hi.data.toList la (nth ks i).data.toList = true ∧ (lv = 0 ∨ 0 < i → keyB (nth ks i) = true)

/-- The last loop: the kids. -/
structure RestP (lv : Int) (lo : ByteArray) (nk nv nc : Nat) (ks : List ByteArray) (cs : List Int) : Prop where
  leaf : lv = 0 → nv = nk ∧ nc = 0
  inner : lv ≠ 0 → nc = nk ∧ nc ≠ 0 ∧ nv = 0 ∧ nth ks 0 = lo ∧ KidsP nc cs

theorem sound_of {lv nx : Int} {lo hi : ByteArray} {la : Bool} {nk nv nc : Nat} {ks : List ByteArray} {cs : List Int} {fan : Int} (h1 : BorderP lv nx lo hi la) (h2 : (nk : Int) ≤ fan) (h3 : Rises ks) (h4 : ∀ i, i < nk → KeySo lv lo hi la ks i) (h5 : RestP lv lo nk nv nc ks cs) : SoundP lv nx lo hi la nk nv nc ks cs fan := by
  refine ⟨⟨h1.1.1, by have := h1.1.2; omega⟩, h1.2, ⟨h2, h3, fun i hi => (h4 i hi).1⟩, fun h0 => ?_, fun h0 => ?_⟩
  · exact ⟨(h5.leaf h0).1, (h5.leaf h0).2, fun i hi => (h4 i hi).2 (Or.inl h0)⟩
  · obtain ⟨a, b, c, d, f⟩ := h5.inner h0
    exact ⟨a, b, c, d, fun i h6 h7 => (h4 i h7).2 (Or.inr h6), f⟩
theorem of_sound {lv nx : Int} {lo hi : ByteArray} {la : Bool} {nk nv nc : Nat} {ks : List ByteArray} {cs : List Int} {fan : Int} (h : SoundP lv nx lo hi la nk nv nc ks cs fan) : BorderP lv nx lo hi la ∧ (nk : Int) ≤ fan ∧ Rises ks ∧ (∀ i, i < nk → KeySo lv lo hi la ks i) ∧ RestP lv lo nk nv nc ks cs := by
  refine ⟨⟨⟨h.level.1, by have := h.level.2; omega⟩, h.range⟩, h.keys.many, h.keys.rise, fun i hi => ⟨h.keys.inn i hi, fun h0 => ?_⟩, fun h0 => ?_, fun h0 => ?_⟩
  · by_cases e : lv = 0
    · exact (h.entries.leaf e).2.2 i hi
    · exact (h.entries.inner e).2.2.2.2.1 i (by omega) hi
  · exact ⟨(h.entries.leaf h0).1, (h.entries.leaf h0).2.1⟩
  · obtain ⟨a, b, c, d, f, g⟩ := h.entries.inner h0
    exact ⟨a, b, c, d, g⟩

end Go.Proofs.Ytgaacoeggikbpaa
