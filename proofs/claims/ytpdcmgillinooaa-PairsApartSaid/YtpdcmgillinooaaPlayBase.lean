/- Facts on a map in memory beside other rows. No walk. -/
import Derived.Test.YtpdcmgillinooaaMapLives
import Derived.Test.YtpdcmgillinooaaPairsRead
namespace Go.Proofs.Ytpdcmgillinooaa
open Go.RowKit

theorem MapAt.base {w : World} {B C g : Nat} {kv vv : Value} {ss : List (ByteArray × Int)} (h : MapAt w C g kv vv ss) (hBC : B ≤ C) : MapAt w B g kv vv ss := ⟨h.blk, Nat.le_trans hBC h.low, h.ks.base hBC, h.vs.base hBC⟩

/-- A block of neither kind stays where a map is written. -/
theorem MapAt.far {w w' : World} {B g b : Nat} {kv vv : Value} {ss : List (ByteArray × Int)} {cs : Array Value} {t : TypeId} (hm : MapAt w B g kv vv ss) (hk : Keep (foot g vv) w w') (hb : w.heap[b]? = some (.cells cs t (0, 0))) (h1 : t ≠ 52) (h2 : t ≠ 29) : w'.heap[b]? = some (.cells cs t (0, 0)) := by
  rw [hk.block b (lt_of_block hb)]
  · exact hb
  · rintro (rfl | h)
    · rw [hm.blk] at hb
      injection hb with hb
      injection hb with _ ht
      exact h1 ht.symm
    · rw [hm.vs.typ b h] at hb
      injection hb with hb
      injection hb with _ ht
      exact h2 ht.symm

theorem OwnP.open3 {w : World} {B : Nat} {v : Value} {ps : List (ByteArray × Int)} (h : OwnP w B v ps) : ∃ ao n c, v = .slice ao n c := by
  obtain ⟨ao, c, h⟩ := h.open
  exact ⟨ao, _, c, h⟩

theorem fineP_of {ps : List (ByteArray × Int)} {i : Nat} (hl : ps.length ≤ i) (hi : i ≤ 100) (hs : ∀ p ∈ ps, p.1.size ≤ 100) : FineP ps := ⟨by omega, fun p hp => Nat.le_trans (hs p hp) (by omega)⟩
theorem rsame_true (v u : Value) (ps : List (ByteArray × Int)) (w : World) (hr : RdP w v ps) (hq : RdP w u ps) : Calls Try.prog 16 #[v, u] w fun e w' => e = .returned (.bool true) ∧ Drew w w' :=
  rsame_any v u ps ps w hr hq true ⟨fun _ => rfl, fun _ => rfl⟩
end Go.Proofs.Ytpdcmgillinooaa
