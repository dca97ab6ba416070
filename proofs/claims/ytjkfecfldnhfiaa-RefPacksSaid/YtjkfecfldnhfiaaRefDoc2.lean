/- The document's own Shut and Gated (bowerref07). No condition but that words are words. -/
import Derived.Test.YtjkfecfldnhfiaaRefDoc
namespace Go.Proofs.Ytjkfecfldnhfiaa
open Go.RowKit

set_option maxHeartbeats 2000000 in
theorem dshut_any (s t : Int) (w : Nat) (hw : w < 18446744073709551616) (W : World) :
    Calls Try.prog 20 #[.agg #[.int .i64 s, .int .i64 t, .int .u64 w]] W fun e W' => e = .returned (.int .u64 (shutW s t w : Nat)) ∧ Below W.heap.size W W' := by
  have hb := gate_below W (.cells #[.int .i64 s, .int .i64 t, .int .u64 w] 29)
  have HB := Lib.hid hb
  have HM := Lib.hid (dmay_any s t w hw (W.alloc (.cells #[.int .i64 s, .int .i64 t, .int .u64 w] 29)))
  have hbd := @may_bounds s t w
  have hS : shutW s t w = if mayG s t w = true then s.toNat * 4611686018427387904 + t.toNat * 72057594037927936 + w else 18446744073709551615 := rfl
  clear hw hb
  generalize mayG s t w = m at *
  cases m with
  | false =>
    have HS : Hid (((shutW s t w : Nat) : Int) = 18446744073709551615) := Lib.hid (by rw [hS]; rfl)
    clear hS hbd
    go_enter Try.func20, Try.ntmps20
    go_wp2_with fail
    refine HM.out.mono ?_
    rintro e w1 ⟨rfl, hb1⟩
    have H := Lib.hid (HB.out.trans (hb1.mono HB.out.size))
    clear hb1
    go_wp2
    go_ret
    exact ⟨by rw [HS.out]; rfl, H.out⟩
  | true =>
    obtain ⟨⟨h1, h2⟩, ⟨h3, h4⟩, h5⟩ := hbd rfl
    have HS : Hid (((shutW s t w : Nat) : Int) = s * 4611686018427387904 + t * 72057594037927936 + w) := Lib.hid (by rw [hS, if_pos rfl]; omega)
    have b1 : s * 4611686018427387904 ≤ 13835058055282163712 := by omega
    have b2 : t * 72057594037927936 ≤ 1080863910568919040 := by omega
    have b3 : 0 ≤ s * 4611686018427387904 := by omega
    have b4 : 0 ≤ t * 72057594037927936 := by omega
    clear hS hbd
    go_enter Try.func20, Try.ntmps20
    go_wp2_with fail
    refine HM.out.mono ?_
    rintro e w1 ⟨rfl, hb1⟩
    have c0 := (hb1.cell (p := ⟨W.heap.size, 0, none⟩) (by simp)).trans (by rw [World.cell?_alloc_at _ _ _ _ (by simp)]; rfl : _ = some (.int .i64 s))
    have c1 := (hb1.cell (p := ⟨W.heap.size, 1, none⟩) (by simp)).trans (by rw [World.cell?_alloc_at _ _ _ _ (by simp)]; rfl : _ = some (.int .i64 t))
    have c2 := (hb1.cell (p := ⟨W.heap.size, 2, none⟩) (by simp)).trans (by rw [World.cell?_alloc_at _ _ _ _ (by simp)]; rfl : _ = some (.int .u64 (w : Nat)))
    have H := Lib.hid (HB.out.trans (hb1.mono HB.out.size))
    clear hb1
    go_wp2
    go_ret
    exact ⟨by rw [HS.out]; rfl, H.out⟩

/-- What is told of a gate. -/
def GateGives (W W' : World) (e : Ending) (w : Nat) : Prop := e = .returned (.tuple #[.agg #[.int .i64 (gatedS w : Nat), .int .i64 (gatedT w : Nat), .int .u64 (gatedW w : Nat)], .bool (gatedOk w)]) ∧ Below W.heap.size W W'

set_option maxHeartbeats 2000000 in
theorem dgated_any (w : Nat) (hw : w < 18446744073709551616) (W : World) :
    Calls Try.prog 18 #[.int .u64 w] W fun e W' => GateGives W W' e w := by
  have d1 : (w : Int) / 4611686018427387904 = (w / 4611686018427387904 : Nat) := by omega
  have d2 : (w : Int) % 4611686018427387904 = (w % 4611686018427387904 : Nat) := by omega
  have d3 : ((w % 4611686018427387904 : Nat) : Int) / 72057594037927936 = (w % 4611686018427387904 / 72057594037927936 : Nat) := by omega
  have d4 : (w : Int) % 72057594037927936 = (w % 72057594037927936 : Nat) := by omega
  have b1 : w / 4611686018427387904 < 4 := by omega
  have b2 : w % 4611686018427387904 / 72057594037927936 < 64 := by omega
  have b3 : w % 72057594037927936 < 72057594037927936 := by omega
  have b4 : w % 4611686018427387904 < 4611686018427387904 := by omega
  have hS : gatedS w = if gatedOk w = true then w / 4611686018427387904 else 0 := rfl
  have hT : gatedT w = if gatedOk w = true then w % 4611686018427387904 / 72057594037927936 else 0 := rfl
  have hW : gatedW w = if gatedOk w = true then w % 72057594037927936 else 0 := rfl
  have hO : gatedOk w = mayG (w / 4611686018427387904 : Nat) (w % 4611686018427387904 / 72057594037927936 : Nat) (w % 72057594037927936) := rfl
  generalize w % 4611686018427387904 / 72057594037927936 = t at *
  generalize w % 4611686018427387904 = w2 at *
  generalize w / 4611686018427387904 = s at *
  generalize w % 72057594037927936 = r at *
  obtain ⟨W2, hW2⟩ : ∃ W2, W2 = (W.alloc (.cells #[.int .i64 0, .int .i64 0, .int .u64 0] 29)).alloc (.cells #[.int .i64 (s : Nat), .int .i64 (t : Nat), .int .u64 (r : Nat)] 29) := ⟨_, rfl⟩
  have hb2 : Below W.heap.size W W2 := by rw [hW2]; exact (gate_below W _).alloc (by simp) _
  have HB2 := Lib.hid hb2
  have HM := Lib.hid (dmay_any (s : Nat) (t : Nat) r (by omega) W2)
  have z0 : W2.heap[W.heap.size]? = some (.cells #[.int .i64 0, .int .i64 0, .int .u64 0] 29 (0, 0)) := by
    rw [hW2, Below.heap_alloc _ _ _ (by simp)]
    exact heap_alloc_new _ _
  have z1 : W2.heap[W.heap.size + 1]? = some (.cells #[.int .i64 (s : Nat), .int .i64 (t : Nat), .int .u64 (r : Nat)] 29 (0, 0)) := by
    rw [hW2]
    have := heap_alloc_new (W.alloc (.cells #[.int .i64 0, .int .i64 0, .int .u64 0] 29)) (.cells #[.int .i64 (s : Nat), .int .i64 (t : Nat), .int .u64 (r : Nat)] 29)
    rw [World.size_alloc] at this
    exact this
  have HZ : Hid (∀ w1, Below W2.heap.size W2 w1 → w1.heap[W.heap.size]? = some (.cells #[.int .i64 0, .int .i64 0, .int .u64 0] 29 (0, 0)) ∧ w1.heap[W.heap.size + 1]? = some (.cells #[.int .i64 (s : Nat), .int .i64 (t : Nat), .int .u64 (r : Nat)] 29 (0, 0))) := Lib.hid (fun w1 h => ⟨(h.block _ (lt_of_block z0)).trans z0, (h.block _ (lt_of_block z1)).trans z1⟩)
  have HE := Lib.hid hW2
  rw [← hO] at HM
  clear hb2 hW2 z0 z1 hO hw
  go_enter Try.func18, Try.ntmps18
  go_wp2_with fail
  rw [← HE.out]
  refine HM.out.mono ?_
  rintro e w1 ⟨rfl, hb1⟩
  obtain ⟨z0, z1⟩ := HZ.out w1 hb1
  have a0 : w1.cell? ⟨W.heap.size, 0, none⟩ = some (.int .i64 0) := by simp [World.cell?, z0]
  have a1 : w1.cell? ⟨W.heap.size, 1, none⟩ = some (.int .i64 0) := by simp [World.cell?, z0]
  have a2 : w1.cell? ⟨W.heap.size, 2, none⟩ = some (.int .u64 0) := by simp [World.cell?, z0]
  have f0 : w1.frozen? ⟨W.heap.size, 0, none⟩ = false := by simp [World.frozen?, z0]
  have f1 : w1.frozen? ⟨W.heap.size, 1, none⟩ = false := by simp [World.frozen?, z0]
  have f2 : w1.frozen? ⟨W.heap.size, 2, none⟩ = false := by simp [World.frozen?, z0]
  have g0 : w1.cell? ⟨W.heap.size + 1, 0, none⟩ = some (.int .i64 (s : Nat)) := by simp [World.cell?, z1]
  have g1 : w1.cell? ⟨W.heap.size + 1, 1, none⟩ = some (.int .i64 (t : Nat)) := by simp [World.cell?, z1]
  have g2 : w1.cell? ⟨W.heap.size + 1, 2, none⟩ = some (.int .u64 (r : Nat)) := by simp [World.cell?, z1]
  have H := Lib.hid (HB2.out.trans (hb1.mono HB2.out.size))
  clear hb1 z0 z1
  have HOS : Hid (gatedOk w = true → gatedS w = s ∧ gatedT w = t ∧ gatedW w = r) := Lib.hid (fun h => by rw [hS, hT, hW, if_pos h, if_pos h, if_pos h]; exact ⟨rfl, rfl, rfl⟩)
  have HON : Hid (gatedOk w = false → gatedS w = 0 ∧ gatedT w = 0 ∧ gatedW w = 0) := Lib.hid (fun h => by rw [hS, hT, hW, h]; exact ⟨rfl, rfl, rfl⟩)
  clear hS hT hW
  cases hg : gatedOk w with
  | false =>
    have HR := Lib.hid (HON.out hg)
    have HG := Lib.hid hg
    clear hg
    go_wp2
    refine bodyPost_ret (v := .tuple #[.agg #[.int .i64 0, .int .i64 0, .int .u64 0], .bool false]) (by simp [results, Try.results18, go_sem, *]) rfl ⟨by rw [HR.out.1, HR.out.2.1, HR.out.2.2, HG.out]; rfl, ?_⟩
    exact ((H.out.setCell (by simp) _).setCell (by simp) _).setCell (by simp) _
  | true =>
    have HR := Lib.hid (HOS.out hg)
    have HG := Lib.hid hg
    clear hg
    go_wp2
    refine bodyPost_ret (v := .tuple #[.agg #[.int .i64 (s : Nat), .int .i64 (t : Nat), .int .u64 (r : Nat)], .bool true]) (by simp [results, Try.results18, go_sem, *]) rfl ⟨by rw [HR.out.1, HR.out.2.1, HR.out.2.2, HG.out], ?_⟩
    exact ((H.out.setCell (by simp) _).setCell (by simp) _).setCell (by simp) _
end Go.Proofs.Ytjkfecfldnhfiaa
