/- bowerlaw06.lives: the chapter's example is answered true, and nothing that was there has turned. No condition. -/
import Derived.Test.YtpdcmgillinooaaMapNew
namespace Go.Proofs.Ytpdcmgillinooaa
open Go.RowKit

/-- Two rising lists of the same pairs are one. -/
theorem rise_eq {a b : List (ByteArray × Int)} (ha : RiseP a) (hb : RiseP b) (h : a.Perm b) : a = b := by
  refine List.Perm.eq_of_pairwise (le := fun (x y : ByteArray × Int) => lss x.1.data.toList y.1.data.toList = true) (fun x y _ _ h1 h2 => ?_) ha hb h
  rw [lss_asymm _ _ h1] at h2
  cases h2

theorem Kept.one {ps a b : List (ByteArray × Int)} (h : Kept ps a) (k : Kept ps b) : a = b := rise_eq h.rise k.rise (h.perm.symm.trans k.perm)

def exP : List (ByteArray × Int) := [(⟨#[98]⟩, 2), (⟨#[97]⟩, 1)]
def exS : List (ByteArray × Int) := [(⟨#[97]⟩, 1), (⟨#[98]⟩, 2)]

theorem ex_fold : foldP exP = exP := by
  unfold foldP exP
  simp only [List.foldl_cons, List.foldl_nil, putP, delP]
  simp
theorem ex_kept : Kept exP exS := by
  refine ⟨?_, ?_⟩
  · unfold RiseP exS
    simp
    decide
  · unfold exP exS
    exact List.Perm.swap _ _ _
theorem ex_next : selP (nextC ⟨#[97]⟩) nextB exP = some (⟨#[98]⟩, 2) := by rfl
theorem ex_prev : selP (prevC ⟨#[97]⟩) prevB exP = none := by rfl
theorem ex_scan : scanP exS ⟨#[97]⟩ ⟨#[122]⟩ 1 = [(⟨#[97]⟩, 1)] := by rfl
theorem ex_size : ∀ p ∈ exP, p.1.size ≤ 140737488355328 := by
  intro p hp
  simp [exP] at hp
  rcases hp with rfl | rfl <;> decide
theorem ex_rdp (w : World) : RdP (w.alloc (.cells #[.string ⟨#[98]⟩, .int .u64 2, .string ⟨#[97]⟩, .int .u64 1] 40)) (.slice (some ⟨w.heap.size, 0, none⟩) 2 2) exP := by
  refine ⟨some ⟨w.heap.size, 0, none⟩, 2, rfl, Nat.le_refl _, by omega, fun _ => ⟨w.heap.size, 0, rfl, fun j hj => ?_⟩⟩
  have hc : ∀ o, (w.alloc (.cells #[.string ⟨#[98]⟩, .int .u64 2, .string ⟨#[97]⟩, .int .u64 1] 40)).cell? ⟨w.heap.size, o, none⟩ = #[Value.string ⟨#[98]⟩, .int .u64 2, .string ⟨#[97]⟩, .int .u64 1][o]? := fun o => cell_of_heap (heap_alloc_new _ _)
  have : j = 0 ∨ j = 1 := by simp [exP] at hj; omega
  rcases this with rfl | rfl
  · exact ⟨hc 0, hc 1⟩
  · exact ⟨hc 2, hc 3⟩

theorem Kept.fineEx {ss : List (ByteArray × Int)} (h : Kept exP ss) : Fine ss := FineP.fine ⟨by simp [exP], ex_size⟩ h

theorem dg_one {w w' : World} {v : Value} {k : ByteArray} {z : Int} (h : OwnP w' w.heap.size v [(k, z)]) : ∃ g c, v = .slice (some ⟨g, 0, none⟩) 1 c ∧ w'.cell? ⟨g, 1, none⟩ = some (.int .u64 z) := by
  obtain ⟨ao, c, rfl⟩ := h.rd.open
  have hr := h.rd
  rcases h.2 with ⟨h1, h2⟩ | ⟨g, cap, cur, h1, _, hg, _⟩
  · cases h2
  · injection h1 with e1 e2 e3
    subst e1 e3
    obtain ⟨g2, o, e, hc⟩ := hr.at_ 0 (by simp)
    injection e with e
    injection e with e1 e2
    subst e1 e2
    exact ⟨g, c, rfl, (hc 0 (by simp)).2⟩

set_option maxHeartbeats 8000000 in
set_option maxRecDepth 100000 in
theorem lives_true (w : World) : Calls Try.prog 7 #[] w fun e w' => e = .returned (.bool true) ∧ Below w.heap.size w w' := by
  have HN := Lib.hid (mnew_any (.slice (some ⟨w.heap.size, 0, none⟩) 2 2) exP _ (ex_rdp w) (by simp [exP]) ex_size)
  rw [ex_fold] at HN
  have HB0 := Lib.hid (one_alloc w (.cells #[.string ⟨#[98]⟩, .int .u64 2, .string ⟨#[97]⟩, .int .u64 1] 40)).2
  go_enter Try.func7, Try.ntmps7
  go_wp2_with fail
  refine HN.out.mono ?_
  rintro e w1 ⟨g, ss, rfl, ⟨kv, vv, hm⟩, hk, hb⟩
  obtain rfl : ss = exS := hk.one ex_kept
  have HF := Lib.hid hk.fineEx
  have HM := Lib.hid hm
  have HB := Lib.hid (HB0.out.trans (hb.mono HB0.out.size))
  have HX := Lib.hid (mnext_any _ g kv vv ⟨#[97]⟩ exP exS w1 hm HF.out (by decide) hk)
  rw [ex_next] at HX
  clear hm hk hb HN HB0
  go_wp2_with fail
  refine HX.out.mono ?_
  rintro e w2 ⟨b2, ⟨k2, z2⟩, rfl, hs, hb⟩
  obtain ⟨rfl, h2⟩ : b2 = true ∧ some ((⟨#[98]⟩ : ByteArray), (2 : Int)) = some (k2, z2) := by
    rcases hs with ⟨_, _, h⟩ | h
    · cases h
    · exact h
  injection h2 with h2
  injection h2 with h2 h3
  subst h2 h3
  have M2 := Lib.hid (HM.out.keepB hb)
  have HB2 := Lib.hid (HB.out.trans (hb.mono HB.out.size))
  have A2 := one_alloc w2 (.cells #[.string ⟨#[98]⟩, .int .u64 2] 40)
  have M3 := Lib.hid (M2.out.keepB A2.2)
  have B3 := Lib.hid (HB2.out.trans (A2.2.mono HB2.out.size))
  have T3 := Lib.hid (show Two (w2.alloc (.cells #[.string ⟨#[98]⟩, .int .u64 2] 40)) w2.heap.size (⟨#[98]⟩, 2) from A2.1)
  have HX3 := Lib.hid (mprev_any _ g kv vv ⟨#[97]⟩ exP exS _ M3.out HF.out (by decide) ex_kept)
  rw [ex_prev] at HX3
  clear hs hb A2 HX HM HB M2 HB2
  go_wp2_with fail
  refine HX3.out.mono ?_
  rintro e w4 ⟨b4, ⟨k4, z4⟩, rfl, hs, hb⟩
  obtain rfl : b4 = false := by
    rcases hs with ⟨h, _⟩ | ⟨_, h⟩
    · exact h
    · cases h
  have M4 := Lib.hid (M3.out.keepB hb)
  have T4 := Lib.hid (T3.out.keep hb)
  have B4 := Lib.hid (B3.out.trans (hb.mono B3.out.size))
  have A4 := (one_alloc w4 (.cells #[.string k4, .int .u64 z4] 40)).2
  have M5 := Lib.hid (M4.out.keepB A4)
  have T5 := Lib.hid (T4.out.keep A4)
  have B5 := Lib.hid (B4.out.trans (A4.mono B4.out.size))
  have HX5 := Lib.hid (mscan_any _ g kv vv ⟨#[97]⟩ ⟨#[122]⟩ 1 exS _ M5.out HF.out (by decide) (by decide) (by omega) (by omega))
  rw [ex_scan] at HX5
  clear hs hb A4 HX3 M3 T3 B3 M4 T4 B4
  go_wp2_with fail
  refine HX5.out.mono ?_
  rintro e w6 ⟨v6, rfl, hO, hb⟩
  obtain ⟨lg, lc, rfl, hl1⟩ := dg_one hO
  have M6 := Lib.hid (M5.out.keepB hb)
  have T6 := Lib.hid (T5.out.keep hb)
  have B6 := Lib.hid (B5.out.trans (hb.mono B5.out.size))
  have HLEN := Lib.hid (mlen_any _ g kv vv exS w6 M6.out)
  rw [show exS.length = 2 from rfl] at HLEN
  have t0 := T6.out.c0
  have hbe : ((⟨#[98]⟩ : ByteArray).toList == [98]) = true := by rw [ByteArray.toList_eq]; rfl
  clear hO hb HX5 M5 T5 B5
  go_wp2_with (go_at_call 22; refine HLEN.out.mono ?_; rintro e w7 ⟨rfl, rfl⟩)
  go_ret
  exact ⟨rfl, B6.out⟩
end Go.Proofs.Ytpdcmgillinooaa
