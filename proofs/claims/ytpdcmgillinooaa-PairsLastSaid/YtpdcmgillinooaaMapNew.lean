/- pairs.New: a map into which pairs were put, one behind the other. Conditions: at most 2^36 pairs, keys of at most 2^47 bytes. -/
import Derived.Test.YtpdcmgillinooaaMapClone
namespace Go.Proofs.Ytpdcmgillinooaa
open Go.RowKit

/-- A map at a block, its rows left open. -/
def MapIn (w : World) (B g : Nat) (ss : List (ByteArray × Int)) : Prop := ∃ kv vv, MapAt w B g kv vv ss

theorem MapIn.keepB {w w' : World} {B g : Nat} {ss : List (ByteArray × Int)} (h : MapIn w B g ss) (hb : Below w.heap.size w w') : MapIn w' B g ss := by
  obtain ⟨kv, vv, h⟩ := h
  exact ⟨kv, vv, h.keepB hb⟩

/-- The document's pairs when some were put. -/
def putP (ps : List (ByteArray × Int)) (p : ByteArray × Int) : List (ByteArray × Int) := delP ps p.1 ++ [(p.1, p.2)]
def foldP (qs : List (ByteArray × Int)) : List (ByteArray × Int) := qs.foldl putP []

theorem delP_mem {ps : List (ByteArray × Int)} {k : ByteArray} {p : ByteArray × Int} (h : p ∈ delP ps k) : p ∈ ps := (List.mem_filter.1 h).1
theorem delP_le (ps : List (ByteArray × Int)) (k : ByteArray) : (delP ps k).length ≤ ps.length := by unfold delP; exact List.length_filter_le _ _

theorem foldP_step (qs : List (ByteArray × Int)) (i : Nat) (hi : i < qs.length) : foldP (qs.take (i + 1)) = delP (foldP (qs.take i)) (ntp qs i).1 ++ [((ntp qs i).1, (ntp qs i).2)] := by
  unfold foldP
  rw [List.take_succ_eq_append_getElem hi, List.foldl_append, ntp_eq hi]
  rfl
theorem foldP_len (qs : List (ByteArray × Int)) (i : Nat) (hi : i ≤ qs.length) : (foldP (qs.take i)).length ≤ i := by
  induction i with
  | zero => simp [foldP]
  | succ i ih =>
    rw [foldP_step qs i (by omega), List.length_append]
    have := delP_le (foldP (qs.take i)) (ntp qs i).1
    have := ih (by omega)
    simp; omega
theorem foldP_mem (qs : List (ByteArray × Int)) (i : Nat) (hi : i ≤ qs.length) : ∀ p ∈ foldP (qs.take i), p ∈ qs := by
  induction i with
  | zero => simp [foldP]
  | succ i ih =>
    intro p hp
    rw [foldP_step qs i (by omega)] at hp
    rcases List.mem_append.1 hp with h | h
    · exact ih (by omega) p (delP_mem h)
    · have : p = ntp qs i := by simpa using h
      rw [this, ntp_eq (by omega)]
      exact List.getElem_mem _

/-- What is asked of the document's pairs. -/
structure FineP (ps : List (ByteArray × Int)) : Prop where
  len : ps.length ≤ 137438953472
  size : ∀ p ∈ ps, p.1.size ≤ 140737488355328
theorem FineP.fine {ps ss : List (ByteArray × Int)} (h : FineP ps) (hk : Kept ps ss) : Fine ss :=
  ⟨hk.rise, by rw [← hk.len]; exact h.len, fun p hp => h.size p ((hk.same p).2 hp)⟩

theorem Turned.inn {w w' : World} {B g : Nat} {kv vv kv' vv' : Value} {ss' : List (ByteArray × Int)} (h : Turned w w' B g kv vv kv' vv' ss') : MapIn w' B g ss' := ⟨_, _, h.map⟩

/-- What a map's change leaves as it was: all below B. -/
theorem Turned.below {w w' : World} {B g : Nat} {kv vv kv' vv' : Value} {ss ss' : List (ByteArray × Int)} (h : Turned w w' B g kv vv kv' vv' ss') (hm : MapAt w B g kv vv ss) (hB : B ≤ w.heap.size) : Below B w w' :=
  h.kept.below hB (fun k hk => by
    rcases hk with rfl | hk
    · exact hm.low
    · exact (hm.vs.low k hk).1)

def NewGives (w w' : World) (e : Ending) (ps : List (ByteArray × Int)) : Prop :=
  ∃ g ss, e = .returned (.pointer (some ⟨g, 0, none⟩)) ∧ MapIn w' w.heap.size g ss ∧ Kept ps ss ∧ Below w.heap.size w w'

theorem mapin_new (w : World) : MapIn (w.alloc (.cells #[.slice none 0 0, .slice none 0 0] 52)) w.heap.size w.heap.size [] :=
  ⟨_, _, heap_alloc_new _ _, Nat.le_refl _, Or.inl ⟨rfl, rfl⟩, Or.inl ⟨rfl, rfl⟩⟩

set_option maxHeartbeats 4000000 in
set_option maxRecDepth 100000 in
theorem mnew_any (v : Value) (qs : List (ByteArray × Int)) (w : World) (hr : RdP w v qs) (hl : qs.length ≤ 68719476736) (hs : ∀ p ∈ qs, p.1.size ≤ 140737488355328) :
    Calls Try.prog 8 #[v] w fun e w' => NewGives w w' e (foldP qs) := by
  obtain ⟨ao, c, rfl⟩ := hr.open
  have hi0 := hr.len
  have hnc := hi0.2.1
  have hcb := hi0.2.2
  have HR := Lib.hid hr
  have HST := Lib.hid (foldP_step qs)
  have HFI := Lib.hid (fun i (hi : i ≤ qs.length) => (show FineP (foldP (qs.take i)) from ⟨Nat.le_trans (foldP_len qs i hi) (by omega), fun p hp => hs p (foldP_mem qs i hi p hp)⟩))
  have HSZ := Lib.hid (fun i (hi : i < qs.length) => (show (ntp qs i).1.size ≤ 140737488355328 by rw [ntp_eq hi]; exact hs _ (List.getElem_mem hi)))
  have HF : Hid (foldP (qs.take qs.length) = foldP qs) := Lib.hid (by rw [List.take_length])
  have HN0 := Lib.hid (mapin_new w)
  have HB0 := Lib.hid (one_alloc w (.cells #[.slice none 0 0, .slice none 0 0] 52)).2
  clear hr hi0 hs
  obtain ⟨n, hL⟩ : ∃ n, n = qs.length := ⟨_, rfl⟩
  rw [← hL] at HR hnc HST HFI HSZ HF hl ⊢
  clear hL
  go_enter Try.func8, Try.ntmps8
  go_wp2
  go_loopw [10] (fun s wr => ∃ (i : Nat) (ss : List (ByteArray × Int)), s = .int .i64 i ∧ i ≤ n ∧ Hid (MapIn wr w.heap.size w.heap.size ss) ∧ Hid (Kept (foldP (qs.take i)) ss) ∧ Hid (Below w.heap.size w wr)) (fun s _ => n - (intOf s).toNat)
  case atStart => exact ⟨0, [], rfl, Nat.zero_le _, HN0, Lib.hid Kept.nil, HB0⟩
  case round =>
    obtain ⟨i, ss, rfl, hi, hM, hK, hb⟩ := hrel
    by_cases hlt : i < n
    · obtain ⟨g, o, rfl, hcs⟩ := (HR.out.keep hb.out).at_ i hlt
      have hc1 := (hcs i hlt).1
      have hc2 := (hcs i hlt).2
      obtain ⟨kv, vv, hm⟩ := hM.out
      have hm2 := hm.keepB (one_alloc wr (.cells #[.string (ntp qs i).1, .int .u64 (ntp qs i).2] 40)).2
      have hb2 : Below w.heap.size w (wr.alloc (.cells #[.string (ntp qs i).1, .int .u64 (ntp qs i).2] 40)) := hb.out.alloc hb.out.size _
      have HP := Lib.hid (mput_any w.heap.size w.heap.size kv vv (ntp qs i).1 (ntp qs i).2 (foldP (qs.take i)) ss _ hm2 hb2.size ((HFI.out i hi).fine hK.out) (HSZ.out i hlt) hK.out)
      have hst := HST.out i hlt
      have HST2 := Lib.hid hst
      have HM2 := Lib.hid hm2
      have HB2 := Lib.hid hb2
      clear hcs hm hm2 hb2 hst
      generalize ntp qs i = p at *
      obtain ⟨k, z⟩ := p
      go_wp2_with fail
      refine HP.out.mono ?_
      rintro e w3 ⟨kv', vv', ss', rfl, hk', ht⟩
      have HT := Lib.hid ht
      have HK' := Lib.hid hk'
      clear ht hk'
      go_wp2
      go_roundw
      case rel => exact ⟨i + 1, ss', by go_num, by omega, Lib.hid HT.out.inn, Lib.hid (by rw [HST2.out]; exact HK'.out), Lib.hid (HB2.out.trans (HT.out.below HM2.out HB2.out.size))⟩
      case measure => simp [intOf]; omega
    · obtain rfl : i = n := by omega
      have hfin := hK.out
      rw [HF.out] at hfin
      have HX := Lib.hid hfin
      clear hfin
      go_wp2
      go_ret
      exact ⟨w.heap.size, ss, rfl, hM.out, HX.out, hb.out⟩
end Go.Proofs.Ytpdcmgillinooaa
