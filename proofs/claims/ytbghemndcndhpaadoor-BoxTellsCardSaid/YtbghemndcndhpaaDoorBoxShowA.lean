/- (box.Box).show of any box, (box.Box).Show. Conditions: numbers that are numbers; at most some 2^35 bytes and boxes; the table of powers of ten is laid. -/
import Derived.Test.YtbghemndcndhpaaDoorBoxShowL
namespace Go.Proofs.YtbghemndcndhpaaDoor
open Go.RowKit

set_option maxHeartbeats 2000000 in
set_option maxRecDepth 100000 in
theorem show_list (l : List Bx) (ih : ∀ b ∈ l, ShowOk b) : ShowOk (.list l) := by
  intro S B v ov acc w hv hS ho hB hok ht hl
  rw [BoxIs] at hv
  obtain ⟨g, hv, hg, hbl⟩ := hv
  rw [okB] at hok
  rw [wB] at hl
  subst hv
  have hb0 : Below B w ((w.alloc (.cells #[.iface 58 (.agg #[.slice (some ⟨g, 0, none⟩) l.length l.length, .int .i64 (maxD l + 1 : Nat)])] 29)).alloc (.cells #[.slice (some ⟨g, 0, none⟩) l.length l.length, .int .i64 (maxD l + 1 : Nat)] 58)) := ((Below.refl _ _).alloc hB _).alloc (by simp; omega) _
  have HC := Lib.hid (showRow_any l ih S B g ov acc _ (hS g hg) (BoxL.keep (w' := ((w.alloc (.cells #[.iface 58 (.agg #[.slice (some ⟨g, 0, none⟩) l.length l.length, .int .i64 (maxD l + 1 : Nat)])] 29)).alloc (.cells #[.slice (some ⟨g, 0, none⟩) l.length l.length, .int .i64 (maxD l + 1 : Nat)] 58))) (fun k hk => ⟨hk, fun _ => hb0.block k (hS k hk)⟩) g (fun _ => hb0.block g (hS g hg)) 0 l hbl) hS ((ho.alloc _).alloc _) (by simp; omega) hok (ht.below hb0) hl)
  have HB := Lib.hid hb0
  have HSH : Hid (showB (.list l) = 91 :: (showL true l ++ [93])) := Lib.hid (by rw [showB])
  clear hg hbl hS ho hok ht hl hb0 ih
  obtain ⟨n, hn⟩ : ∃ n, n = l.length := ⟨_, rfl⟩
  obtain ⟨d, hd⟩ : ∃ d, d = maxD l + 1 := ⟨_, rfl⟩
  rw [← hn, ← hd] at HC HB ⊢
  clear hn hd
  go_enter Tryd.func29, Tryd.ntmps29
  go_wp2_with fail
  refine HC.out.mono ?_
  rintro e w2 ⟨v2, rfl, ho2, hb2⟩
  have H := Lib.hid (And.intro ho2 hb2)
  clear ho2 hb2
  go_wp2
  go_ret
  exact ⟨v2, rfl, by rw [HSH.out]; exact H.out.1, HB.out.trans H.out.2⟩

theorem show_any (b : Bx) : ShowOk b := by
  induction b using Bx.ind with
  | h0 => exact show_nothing
  | h1 b => exact show_truth b
  | h2 n => exact show_number n
  | h3 s => exact show_text s
  | h4 l ih => exact show_list l ih

/-- A box shows as the document says. -/
theorem shown_any (S : Nat → Prop) (b : Bx) (v : Value) (w : World) (hv : BoxIs S w b v) (hS : ∀ k, S k → k < w.heap.size) (hok : okB b) (ht : Tab w.heap.size w) (hl : wB b ≤ 34359738368) :
    Calls Tryd.prog 15 #[.agg #[v]] w fun e w' => e = .returned (.string (txt (showB b))) ∧ Below w.heap.size w w' := by
  have hb0 := alloc_below w (.cells #[v] 29)
  have HC := Lib.hid (show_any b S w.heap.size v (.slice none 0 0) [] (w.alloc (.cells #[v] 29)) (hv.below hb0) hS (World.ownsRow_nil _ _ _ _) (by simp) hok (ht.below hb0) (by simp; omega))
  have HB := Lib.hid hb0
  have hf := hv.form
  clear hv hS hok ht hl hb0
  rcases hf with rfl | ⟨t, u, rfl⟩
  all_goals
    go_enter Tryd.func15, Tryd.ntmps15
    go_wp2_with fail
    refine HC.out.mono ?_
    rintro e w2 ⟨v2, rfl, ho2, hb2⟩
    have hcv := conv_row ho2
    rw [List.nil_append] at hcv
    have H := Lib.hid hb2
    clear ho2 hb2
    go_wp2
    go_ret
    exact ⟨rfl, HB.out.trans H.out⟩
end Go.Proofs.YtbghemndcndhpaaDoor
