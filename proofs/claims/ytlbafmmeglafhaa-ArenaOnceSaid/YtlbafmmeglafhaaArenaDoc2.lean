/- The document's arena: set, Claim, At, Free, Put, Many. Condition: none but that words are words, and at most 8192 blocks. -/
import Derived.Test.YtlbafmmeglafhaaArenaDoc
namespace Go.Proofs.Ytlbafmmeglafhaa
open Go.RowKit

theorem set_mid {w w9 : World} {v9 : Value} {l : List Bk} {p : Array Value} (hb : Below w.heap.size w ((w.alloc (.cells p 49)).alloc (.cells #[] 49)))
    (ho : w9.ownsRow (w.heap.size + 1) 49 3 v9 (0 + l.length) ([] ++ dc l)) (hg : ((w.alloc (.cells p 49)).alloc (.cells #[] 49)).grownBy w9 (Value.slice (some ⟨w.heap.size + 1, 0, none⟩) 0 0).ownBlock)
    (hl : 0 < l.length) : OwnD w9 (w.heap.size + 1) v9 l ∧ Below w.heap.size w w9 ∧ Blk w9 w.heap.size 49 p := by
  rw [Nat.zero_add, List.nil_append] at ho
  have e : (w.alloc (.cells p 49)).heap.size = w.heap.size + 1 := World.size_alloc _ _
  have h2 : ((w.alloc (.cells p 49)).alloc (.cells #[] 49)).heap.size = w.heap.size + 1 + 1 := by rw [World.size_alloc, e]
  refine ⟨own_some ho hl, hb.grown hg hb.size (fun k hk => ?_), ?_⟩
  · have : w.heap.size + 1 = k := by simpa [Value.ownBlock] using hk
    omega
  · have hk := (Below.refl (w.heap.size + 1) ((w.alloc (.cells p 49)).alloc (.cells #[] 49))).grown hg (by omega) (fun k hk => by
      have : w.heap.size + 1 = k := by simpa [Value.ownBlock] using hk
      omega)
    have := hk.block w.heap.size (by omega)
    unfold Blk
    rw [this]
    exact (two_blocks w _ _).1

theorem set_made (w : World) (o : Obj) : ((w.alloc o).alloc (.cells #[] 49)).ownsRow (w.heap.size + 1) 49 3 (.slice (some ⟨w.heap.size + 1, 0, none⟩) 0 0) 0 [] := by
  have h := World.ownsRow_made (base := w.heap.size + 1) (e := 49) (size := 3) (w.alloc o) #[] 0 (by simp) (by unfold maxLen; omega) rfl
  rw [World.size_alloc] at h
  exact h

set_option maxHeartbeats 4000000 in
set_option maxRecDepth 100000 in
theorem dset_any (B : Nat) (v : Value) (l : List Bk) (j : Nat) (s x : Nat) (z : Int) (w : World) (h : OwnD w B v l) (hj : j < l.length) (hl : l.length ≤ 8192) :
    Calls Try.prog 47 #[v, .int .i64 j, .agg #[.int .i64 s, .int .u64 x, .int .i64 z]] w fun e w' => DGives w w' e (l.set j (s, x, z)) := by
  obtain ⟨g, c, rfl, hc, hcm, hcs, hsrc⟩ := h.open
  have H := Lib.hid h
  obtain ⟨i0, hi, hz0, hz1, hz2⟩ := info_parts infoBlk
  have HI := Lib.hid (And.intro hi (And.intro hz0 (And.intro hz1 hz2)))
  clear h hcs hsrc hi hz0 hz1 hz2
  have HW1 := Lib.hid (show Below w.heap.size w ((w.alloc (.cells #[.int .i64 s, .int .u64 x, .int .i64 z] 49)).alloc (.cells #[] 49)) from (one_alloc w _).2.alloc (one_alloc w _).2.size _)
  have HNEWS : Hid (∀ j v, (dc l)[j]? = some v → ((w.alloc (.cells #[.int .i64 s, .int .u64 x, .int .i64 z] 49)).alloc (.cells #[] 49)).cell? ((⟨g, 0, none⟩ : Addr).add j) = some v) := Lib.hid (by
    obtain ⟨g', c', e, _, _, _, hs⟩ := (H.out.below HW1.out).open
    injection e with e1 e2 e3
    injection e1 with e1
    injection e1 with e1 _ _
    subst e1
    exact hs)
  have hj' : (j : Int) < l.length := by omega
  have HMADE := Lib.hid (set_made w (.cells #[.int .i64 s, .int .u64 x, .int .i64 z] 49))
  go_enter Try.func47, Try.ntmps47
  go_wp2_with ((with_reducible show wpList _ _ _ (⟨some 10, _, _, _, _, _⟩ :: _) _ _); refine wpList_append_own _ rfl (.tmp 8) (.tmp 9) 34 rfl (w.heap.size + 1) 49 i0 (.agg #[.int .i64 0, .int .u64 0, .int .i64 0]) 3 24 Try.underlying34 HI.out.1 HI.out.2.1 HI.out.2.2.1 HI.out.2.2.2 rfl (by decide) _ 0 [] rfl HMADE.out ⟨g, 0, none⟩ l.length c (dc l) rfl (dc_len l) HNEWS.out (dc_one l) (by unfold maxLen; omega) (by omega) (by simp) ?_; intro v9 w9 hown9 hgrow9 hnil9; have HO9 := Lib.hid (set_mid HW1.out hown9 hgrow9 (by omega)); clear hown9 hgrow9 hnil9; obtain ⟨g9, c9, rfl, hc9, hcm9, hcs9, _⟩ := HO9.out.1.open; have k1 := (hcs9 j hj).1; have k2 := (hcs9 j hj).2.1; have k3 := (hcs9 j hj).2.2; generalize st l j = s0 at *; generalize gn l j = x0 at *; generalize xx l j = z0 at *; have q1 := (HO9.out.2.2.cell 0).trans rfl; have q2 := (HO9.out.2.2.cell 1).trans rfl; have q3 := (HO9.out.2.2.cell 2).trans rfl; have f1 := HO9.out.1.frozen (j * 3); have f2 := HO9.out.1.frozen (j * 3 + 1); have f3 := HO9.out.1.frozen (j * 3 + 2); have HS := Lib.hid (HO9.out.1.set j s x z); have HLOW := Lib.hid HO9.out.1.low; clear hcs9; clear HMADE HNEWS)
  go_ret
  exact ⟨_, rfl, HS.out.base (by omega), ((HO9.out.2.1.setCell (by have := HLOW.out; show w.heap.size ≤ g9; omega) _).setCell (by have := HLOW.out; show w.heap.size ≤ g9; omega) _).setCell (by have := HLOW.out; show w.heap.size ≤ g9; omega) _⟩

set_option maxHeartbeats 2000000 in
theorem dat_any (B : Nat) (v : Value) (l : List Bk) (word : Nat) (hw : word < 18446744073709551616) (w : World) (h : OwnD w B v l) :
    Calls Try.prog 22 #[v, .int .u64 word] w fun e w' => e = .returned (.tuple #[.int .i64 (atP l word : Nat), .int .i64 (atE l word : Nat)]) ∧ w = w' := by
  obtain ⟨g, c, rfl, hc, hcm, hcs, _⟩ := h.open
  have HO := Lib.hid (dopen_any word hw w)
  have hways := at_ways l word
  have HC := Lib.hid hcs
  clear h hw hcs
  generalize openP word = p at *
  generalize openG word = y at *
  generalize atE l word = ae at *
  generalize atP l word = ap at *
  rcases hways with ⟨h1, rfl, rfl⟩ | ⟨h1, h2, rfl, rfl⟩ | ⟨h1, h2, h3, rfl, rfl⟩ | ⟨h1, h2, h3, h4, rfl, rfl⟩ | ⟨h1, h2, h3, h4, rfl, rfl⟩
  · rw [h1] at HO
    clear h1
    generalize l.length = n at *
    go_enter Try.func22, Try.ntmps22
    go_wp2_with fail
    refine HO.out.mono ?_
    rintro e w1 ⟨rfl, rfl⟩
    go_wp2
    go_ret2
    exact ⟨rfl, rfl⟩
  · rw [h1] at HO
    have h2' : (l.length : Int) ≤ p := by omega
    clear h1 h2
    generalize l.length = n at *
    go_enter Try.func22, Try.ntmps22
    go_wp2_with fail
    refine HO.out.mono ?_
    rintro e w1 ⟨rfl, rfl⟩
    go_wp2
    go_ret2
    exact ⟨rfl, rfl⟩
  all_goals
    rw [h1] at HO
    have c1 := (HC.out _ h2).1
    have c2 := (HC.out _ h2).2.1
    have h2' : ¬ (l.length : Int) ≤ p := by omega
    clear h1 HC
    generalize l.length = n at *
  · generalize st l p = s at *
    generalize gn l p = x at *
    have hne : ((x : Int) != (y : Int)) = true := by rw [bne_iff_ne]; omega
    clear h3
    go_enter Try.func22, Try.ntmps22
    go_wp2_with fail
    refine HO.out.mono ?_
    rintro e w1 ⟨rfl, rfl⟩
    go_wp2
    go_ret2
    exact ⟨rfl, rfl⟩
  · generalize st l p = s at *
    generalize gn l p = x at *
    have hne : ((x : Int) != (y : Int)) = false := by rw [h3]; simp
    have hs : ((s : Int) != 1) = true := by rw [bne_iff_ne]; omega
    clear h3 h4
    go_enter Try.func22, Try.ntmps22
    go_wp2_with fail
    refine HO.out.mono ?_
    rintro e w1 ⟨rfl, rfl⟩
    go_wp2
    go_ret2
    exact ⟨rfl, rfl⟩
  · generalize st l p = s at *
    generalize gn l p = x at *
    have hne : ((x : Int) != (y : Int)) = false := by rw [h3]; simp
    have hs : ((s : Int) != 1) = false := by rw [h4]; rfl
    clear h3 h4
    go_enter Try.func22, Try.ntmps22
    go_wp2_with fail
    refine HO.out.mono ?_
    rintro e w1 ⟨rfl, rfl⟩
    go_wp2
    go_ret2
    exact ⟨rfl, rfl⟩
end Go.Proofs.Ytlbafmmeglafhaa
