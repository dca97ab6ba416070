/- An arena, the document's blocks and the words that were told, where some acts are done. No walk. -/
import Derived.Test.YtlbafmmeglafhaaArenaLaw
namespace Go.Proofs.Ytlbafmmeglafhaa
open Go.RowKit

theorem grown_keep {w w' : World} {row : Option Nat} (h : w.grownBy w' row) : Keep (fun k => some k = row) w w' := ⟨h.os, h.tape, h.output, h.size, h.block⟩

/-- An arena of one's own. -/
structure MineA (w0 wr : World) (b g h : Nat) (l : List Bk) : Prop where
  arena : ArenaAt wr b g h l
  low : w0.heap.size ≤ b ∧ w0.heap.size ≤ g ∧ w0.heap.size ≤ h
  below : Below w0.heap.size w0 wr

section
variable {w0 wr w2 : World} {b g h : Nat} {l l' : List Bk}
theorem MineA.on (H : MineA w0 wr b g h l) (hb : Below wr.heap.size wr w2) : MineA w0 w2 b g h l := ⟨H.arena.below hb, H.low, H.below.trans (hb.mono H.below.size)⟩
theorem MineA.wrote (H : MineA w0 wr b g h l) (hw : AWrote wr w2 b g h l') : MineA w0 w2 b g h l' := ⟨hw.arena, H.low, H.below.trans (hw.below H.below.size H.low.2.1 H.low.2.2)⟩
/-- Where a block of another type alone has turned. -/
theorem MineA.grown {row : Option Nat} {t : TypeId} (H : MineA w0 wr b g h l) (hg : wr.grownBy w2 row) (hr : ∀ k, row = some k → w0.heap.size ≤ k ∧ ∃ cs, Blk wr k t cs) (h1 : t ≠ 58) (h2 : t ≠ 73) (h3 : t ≠ 3) : MineA w0 w2 b g h l := by
  have hk := grown_keep hg
  have ne : ∀ {k : Nat} {t' : TypeId} {cs' : Array Value}, Blk wr k t' cs' → t ≠ t' → ¬ some k = row := by
    intro k t' cs' hb ht e
    obtain ⟨_, cs, hc⟩ := hr k e.symm
    exact hc.ne_ hb ht rfl
  refine ⟨⟨H.arena.blk.keep hk (ne H.arena.blk h1), H.arena.row.keep hk (ne H.arena.row h2), H.arena.held.keep hk (ne H.arena.held h3), H.arena.len, H.arena.fit⟩, H.low, H.below.grown hg H.below.size (fun k hk => (hr k hk).1)⟩
end

/-- All of it. -/
structure PlayA (w0 wr : World) (b g h : Nat) (v tv : Value) (l : List Bk) (T : List Nat) (n : Nat) : Prop where
  mine : MineA w0 wr b g h l
  own : OwnD wr w0.heap.size v l
  told : OwnU wr w0.heap.size tv T
  len : l.length = n

section
variable {w0 wr w2 w3 : World} {b g h n : Nat} {v tv v3 : Value} {l l' : List Bk} {T : List Nat}
theorem PlayA.on (H : PlayA w0 wr b g h v tv l T n) (hb : Below wr.heap.size wr w2) : PlayA w0 w2 b g h v tv l T n := ⟨H.mine.on hb, H.own.below hb, H.told.below hb, H.len⟩
/-- Between an act of the arena and the document's. -/
structure Mid (w0 w2 : World) (b g h : Nat) (v tv : Value) (l l' : List Bk) (T : List Nat) (n : Nat) : Prop where
  mine : MineA w0 w2 b g h l'
  own : OwnD w2 w0.heap.size v l
  told : OwnU w2 w0.heap.size tv T
  len : l'.length = n
theorem PlayA.wrote (H : PlayA w0 wr b g h v tv l T n) (hw : AWrote wr w2 b g h l') (hl : l'.length = l.length) : Mid w0 w2 b g h v tv l l' T n :=
  ⟨H.mine.wrote hw, H.own.keep hw.keep H.mine.arena.row H.mine.arena.held (by decide) (by decide), H.told.keep hw.keep H.mine.arena.row H.mine.arena.held (by decide) (by decide), hl.trans H.len⟩
theorem Mid.on (H : Mid w0 wr b g h v tv l l' T n) (hb : Below wr.heap.size wr w2) : Mid w0 w2 b g h v tv l l' T n := ⟨H.mine.on hb, H.own.below hb, H.told.below hb, H.len⟩
theorem Mid.done (H : Mid w0 wr b g h v tv l l' T n) (hO : OwnD w2 w0.heap.size v3 l') (hb : Below wr.heap.size wr w2) : PlayA w0 w2 b g h v3 tv l' T n := ⟨H.mine.on hb, hO, H.told.below hb, H.len⟩
theorem OwnU.row (H : OwnU wr w0.heap.size tv T) : ∀ k, tv.ownBlock = some k → w0.heap.size ≤ k ∧ ∃ cs, Blk wr k 22 cs := by
  intro k hk
  rcases H.own.2 with ⟨rfl, _⟩ | ⟨g', cap, cur, rfl, hb, hg, _⟩
  · cases hk
  · simp [Value.ownBlock] at hk
    subst hk
    exact ⟨hb, cur, hg⟩
/-- One word more was told. -/
theorem PlayA.more {tv' : Value} {m : Nat} (H : PlayA w0 wr b g h v tv l T n) (hm : m < 18446744073709551616) (ho : w2.ownsRow w0.heap.size 22 1 tv' (T.length + 1) (ucells T ++ [.int .u64 m])) (hg : wr.grownBy w2 tv.ownBlock) : PlayA w0 w2 b g h v tv' l (T ++ [m]) n := by
  refine ⟨H.mine.grown hg H.told.row (by decide) (by decide) (by decide), ?_, OwnU.more H.told.fit hm ho, H.len⟩
  obtain ⟨h0, c, cur, h1, h2, h3, h4⟩ := H.own
  refine ⟨h0, c, cur, h1, h2, h3.keep (grown_keep hg) ?_, h4⟩
  intro e
  obtain ⟨_, cs, hc⟩ := H.told.row _ e.symm
  exact hc.ne_ h3 (by decide) rfl
theorem Blk.grown {k : Nat} {t : TypeId} {cs : Array Value} (hB : Blk wr k t cs) (ht : 22 ≠ t) (H : OwnU wr w0.heap.size tv T) (hg : wr.grownBy w2 tv.ownBlock) : Blk w2 k t cs := by
  refine hB.keep (grown_keep hg) ?_
  intro e
  obtain ⟨_, cs', hc⟩ := H.row _ e.symm
  exact hc.ne_ hB ht rfl
end

theorem clL_len (l : List Bk) (i : Int) : (clL l i).length = l.length := by unfold clL; split <;> simp
theorem freeL_len (l : List Bk) (w : Nat) : (freeL l w).length = l.length := by unfold freeL; split <;> simp
theorem putL_len (l : List Bk) (w : Nat) (x : Int) : (putL l w x).length = l.length := by unfold putL; split <;> simp
theorem clW_lt (l : List Bk) (i : Int) : clW l i < 18446744073709551616 := by unfold clW; split; exact packW_lt _ _; omega
theorem wordOf_lt {ago : Int} {raw : Nat} {T : List Nat} (hr : raw < 18446744073709551616) (hT : ∀ j, tn T j < 18446744073709551616) : wordOf ago raw T < 18446744073709551616 := by
  unfold wordOf; split
  · exact hT _
  · exact hr
theorem infoU64 : (Try.prog.info? 22).map (fun i => (i.zero, i.size, i.bytes)) = some (some (.int .u64 0), 1, 8) := by kernel_rfl
theorem one_news (w : World) (a : Value) (t : TypeId) : ∀ j u, [a][j]? = some u → (w.alloc (.cells #[a] t)).cell? ((⟨w.heap.size, 0, none⟩ : Addr).add j) = some u := fun j u hj => by
  have hadd : (⟨w.heap.size, 0, none⟩ : Addr).add j = ⟨w.heap.size, j, none⟩ := by
    by_cases e : j = 0
    · subst e; simp [Addr.add]
    · simp [Addr.add, e]
  rw [hadd, (Blk.new w t #[a]).cell]
  simpa using hj
end Go.Proofs.Ytlbafmmeglafhaa
