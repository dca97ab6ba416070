/- quote.Runes, quote.First, quote.Strays, by a text's pieces; nothing that was there has turned. Condition: a text of at most 2^43 bytes. -/
import Derived.Test.YtajheohdhiojcaaQuotePut
namespace Go.Proofs.Ytajheohdhiojcaa
open Go.RowKit

theorem ret_val {a b : Value} (h : a = b) : Ending.returned a = .returned b := by rw [h]

theorem pcs_drop {s : ByteArray} {pos : Nat} (hp : pos < s.size) : pcs (s.data.toList.drop pos) = ((s.data.toList.drop pos).take (dec (s.data.toList.drop pos)).2, stray (s.data.toList.drop pos)) :: pcs (s.data.toList.drop (pos + (dec (s.data.toList.drop pos)).2)) := by
  rw [pcs_cons (drop_ne hp), List.drop_drop]

theorem pcs_end {s : ByteArray} {pos : Nat} (hp : ¬ pos < s.size) : pcs (s.data.toList.drop pos) = [] := by
  have : s.data.toList.drop pos = [] := List.drop_eq_nil_of_le (by simp; omega)
  rw [this, pcs_nil]

/-- A range over a text: so many pieces are behind, the others are ahead. -/
def At (s : ByteArray) (w wr : World) (pos k : Nat) : Prop :=
  (pcs s.data.toList).drop k = pcs (s.data.toList.drop pos) ∧ ((pcs s.data.toList).take k).flatMap (·.1) = s.data.toList.take pos ∧ k ≤ pos ∧ wr.heap[w.heap.size]? = some (.stringIter s pos) ∧ Below w.heap.size w wr

theorem At.start (s : ByteArray) (w : World) : At s w (w.iter s 0) 0 0 :=
  ⟨by simp, by simp, Nat.le_refl _, World.iter_heap w s 0, (Below.refl _ _).alloc (Nat.le_refl _) _⟩

theorem At.next {s : ByteArray} {w wr : World} {pos k : Nat} (h : At s w wr pos k) (hp : pos < s.size) :
    At s w (wr.iterAt w.heap.size s (pos + (dec (s.data.toList.drop pos)).2)) (pos + (dec (s.data.toList.drop pos)).2) (k + 1) ∧ (pcs s.data.toList)[k]? = some ((s.data.toList.drop pos).take (dec (s.data.toList.drop pos)).2, stray (s.data.toList.drop pos)) := by
  obtain ⟨h1, h2, h3, h4, h5⟩ := h
  have hw := width_le _ (drop_ne hp)
  have hc := pcs_drop hp
  rw [hc] at h1
  have hk : (pcs s.data.toList)[k]? = some ((s.data.toList.drop pos).take (dec (s.data.toList.drop pos)).2, stray (s.data.toList.drop pos)) := by
    have := congrArg (fun l => l[0]?) h1
    simpa [List.getElem?_drop] using this
  refine ⟨⟨?_, ?_, by omega, Lib.iterAt_heap wr _ s pos _ h4, Lib.below_iterAt h5 (Nat.le_refl _) s _⟩, hk⟩
  · have := congrArg (List.drop 1) h1
    rw [List.drop_drop] at this
    simpa using this
  · rw [List.take_add_one, hk, List.flatMap_append, h2]
    simp only [Option.toList, List.flatMap_cons, List.flatMap_nil, List.append_nil]
    rw [List.take_add]

theorem At.iter {s : ByteArray} {w wr : World} {pos k : Nat} (h : At s w wr pos k) : wr.iterPos w.heap.size = pos := by unfold World.iterPos; rw [h.2.2.2.1]

theorem At.count {s : ByteArray} {w wr : World} {pos k : Nat} (h : At s w wr pos k) (hp : ¬ pos < s.size) : (pcs s.data.toList).length ≤ k := by
  have := h.1
  rw [pcs_end hp] at this
  exact List.drop_eq_nil_iff.1 this

theorem At.le {s : ByteArray} {w wr : World} {pos k : Nat} (h : At s w wr pos k) (hp : pos < s.size) : k < (pcs s.data.toList).length := by
  have := (h.next hp).2
  exact (List.getElem?_eq_some_iff.1 this).1

set_option maxHeartbeats 1600000 in
set_option maxRecDepth 100000 in
theorem runes_any (s : ByteArray) (w : World) (hs : s.size ≤ 8796093022208) :
    Calls Try.prog 35 #[.string s] w fun e w' => e = .returned (.int .i64 (pcs s.data.toList).length) ∧ Below w.heap.size w w' := by
  go_enter Try.func35, Try.ntmps35
  go_wp2
  go_loopw [3] (fun n wr => ∃ pos k : Nat, n = .int .i64 k ∧ pos ≤ s.size ∧ k ≤ (pcs s.data.toList).length ∧ At s w wr pos k) (fun _ wr => s.size - wr.iterPos w.heap.size)
  case atStart => exact ⟨0, 0, rfl, Nat.zero_le _, Nat.zero_le _, At.start s w⟩
  case round =>
    obtain ⟨pos, k, rfl, hle, hkl, hat⟩ := hrel
    have hk := hat.2.2.2.1
    have hkp := hat.2.2.1
    by_cases hp : pos < s.size
    · have hnx : ∀ ty, (Instr.next (.pointer (some ⟨w.heap.size, 0, none⟩)) true ty).run Try.prog wr = _ := fun ty => Lib.run_next_any_at wr w.heap.size s pos ty hk hp
      simp only [dec_eq] at hnx
      have hw := width_le _ (drop_ne hp)
      have hsz : (s.data.toList.drop pos).length = s.size - pos := by simp
      have hn := (hat.next hp).1
      have hl := hat.le hp
      have hit := hat.iter
      have hit2 := hn.iter
      have HN := Lib.hid (show _ ∧ _ ∧ _ from ⟨hn, hit, hit2⟩)
      have hw2 : pos + (dec (s.data.toList.drop pos)).2 ≤ s.size ∧ pos < pos + (dec (s.data.toList.drop pos)).2 := by omega
      have HW := Lib.hid hw2
      clear hat hn hit hit2 hk hw hsz hw2
      generalize pos + (dec (s.data.toList.drop pos)).2 = p2 at *
      generalize wr.iterAt w.heap.size s p2 = W1 at *
      generalize (pcs s.data.toList).length = N at *
      go_wp2
      go_roundw
      case rel => exact ⟨p2, k + 1, by go_num, HW.out.1, by omega, HN.out.1⟩
      case measure => rw [HN.out.2.1, HN.out.2.2]; have := HW.out; omega
    · have hnx : ∀ ty, (Instr.next (.pointer (some ⟨w.heap.size, 0, none⟩)) true ty).run Try.prog wr = _ := fun ty => Lib.run_next_end_at wr w.heap.size s pos ty hk hp
      have hc := hat.count hp
      have hb := hat.2.2.2.2
      have he : k = (pcs s.data.toList).length := by omega
      have HE := Lib.hid he
      clear hat hk he hc
      go_wp2
      go_ret
      exact ⟨ret_val (by rw [← HE.out]; rfl), hb⟩

set_option maxHeartbeats 1600000 in
set_option maxRecDepth 100000 in
theorem strays_any (s : ByteArray) (w : World) (hs : s.size ≤ 8796093022208) :
    Calls Try.prog 38 #[.string s] w fun e w' => e = .returned (.int .i64 ((pcs s.data.toList).filter (·.2)).length) ∧ Below w.heap.size w w' := by
  go_enter Try.func38, Try.ntmps38
  go_wp2
  go_loopw [3] (fun n wr => ∃ pos k m : Nat, n = .int .i64 m ∧ pos ≤ s.size ∧ m ≤ k ∧ Hid (m = (((pcs s.data.toList).take k).filter (·.2)).length) ∧ At s w wr pos k) (fun _ wr => s.size - wr.iterPos w.heap.size)
  case atStart => exact ⟨0, 0, 0, rfl, Nat.zero_le _, Nat.zero_le _, Lib.hid (by simp), At.start s w⟩
  case round =>
    obtain ⟨pos, k, m, rfl, hle, hmk, hm, hat⟩ := hrel
    have hk := hat.2.2.2.1
    have hkp := hat.2.2.1
    by_cases hp : pos < s.size
    · have hnx : ∀ ty, (Instr.next (.pointer (some ⟨w.heap.size, 0, none⟩)) true ty).run Try.prog wr = _ := fun ty => Lib.run_next_any_at wr w.heap.size s pos ty hk hp
      simp only [dec_eq] at hnx
      have hst := stray_at s pos
      have hw := width_le _ (drop_ne hp)
      have hsz : (s.data.toList.drop pos).length = s.size - pos := by simp
      have hn := hat.next hp
      have hit := hat.iter
      have hit2 := hn.1.iter
      have hm2 : (((pcs s.data.toList).take (k + 1)).filter (·.2)).length = m + if stray (s.data.toList.drop pos) then 1 else 0 := by
        rw [List.take_add_one, hn.2, List.filter_append, List.length_append, ← hm.out]
        cases stray (s.data.toList.drop pos) <;> simp
      have HN := Lib.hid (show _ ∧ _ ∧ _ from ⟨hn.1, hit, hit2⟩)
      have hw2 : pos + (dec (s.data.toList.drop pos)).2 ≤ s.size ∧ pos < pos + (dec (s.data.toList.drop pos)).2 := by omega
      have HW := Lib.hid hw2
      have HM := Lib.hid hm2
      clear hat hn hit hit2 hk hw hsz hw2 hm2
      generalize pos + (dec (s.data.toList.drop pos)).2 = p2 at *
      generalize wr.iterAt w.heap.size s p2 = W1 at *
      have hS1 := hst W1
      clear hst
      cases hc0 : stray (s.data.toList.drop pos) with
      | true =>
        rw [hc0] at hS1 HM
        have HS1 := Lib.hid hS1
        clear hS1 hc0
        go_wp2_with fail
        refine HS1.out.mono ?_
        rintro e w1 ⟨rfl, rfl⟩
        go_wp2
        go_roundw
        case rel => exact ⟨p2, k + 1, m + 1, by go_num, HW.out.1, by omega, Lib.hid (by rw [HM.out]; simp), HN.out.1⟩
        case measure => rw [HN.out.2.1, HN.out.2.2]; have := HW.out; omega
      | false =>
        rw [hc0] at hS1 HM
        have HS1 := Lib.hid hS1
        clear hS1 hc0
        go_wp2_with fail
        refine HS1.out.mono ?_
        rintro e w1 ⟨rfl, rfl⟩
        go_wp2
        go_roundw
        case rel => exact ⟨p2, k + 1, m, rfl, HW.out.1, by omega, Lib.hid (by rw [HM.out]; simp), HN.out.1⟩
        case measure => rw [HN.out.2.1, HN.out.2.2]; have := HW.out; omega
    · have hnx : ∀ ty, (Instr.next (.pointer (some ⟨w.heap.size, 0, none⟩)) true ty).run Try.prog wr = _ := fun ty => Lib.run_next_end_at wr w.heap.size s pos ty hk hp
      have hc := hat.count hp
      have hb := hat.2.2.2.2
      have he : m = ((pcs s.data.toList).filter (·.2)).length := by rw [hm.out, List.take_of_length_le hc]
      have HE := Lib.hid he
      clear hat hk he hc
      go_wp2
      go_ret
      exact ⟨ret_val (by rw [← HE.out]; rfl), hb⟩

/-- The text of the first n pieces. -/
def firstT (l : List UInt8) (n : Int) : List UInt8 := ((pcs l).take n.toNat).flatMap (·.1)

theorem ext_take (s : ByteArray) (pos : Nat) : s.extract 0 pos = ⟨(s.data.toList.take pos).toArray⟩ := by
  apply ByteArray.ext
  rw [ByteArray.data_extract]
  apply Array.ext'
  simp [List.extract_eq_take_drop]

theorem str_list (s : ByteArray) : s = ⟨s.data.toList.toArray⟩ := by
  apply ByteArray.ext
  simp

set_option maxHeartbeats 1600000 in
set_option maxRecDepth 100000 in
theorem first_any (s : ByteArray) (n0 : Int) (w : World) (hs : s.size ≤ 8796093022208) (h0 : -9223372036854775808 ≤ n0) (h1 : n0 ≤ 9223372036854775807) :
    Calls Try.prog 36 #[.string s, .int .i64 n0] w fun e w' => e = .returned (.string ⟨(firstT s.data.toList n0).toArray⟩) ∧ Below w.heap.size w w' := by
  go_enter Try.func36, Try.ntmps36
  go_wp2
  go_loopw [1] (fun n wr => ∃ pos k : Nat, n = .int .i64 (n0 - k) ∧ pos ≤ s.size ∧ (k = 0 ∨ (k : Int) ≤ n0) ∧ At s w wr pos k) (fun _ wr => s.size - wr.iterPos w.heap.size)
  case atStart => exact ⟨0, 0, by simp, Nat.zero_le _, Or.inl rfl, At.start s w⟩
  case round =>
    obtain ⟨pos, k, rfl, hle, hkn, hat⟩ := hrel
    have hk := hat.2.2.2.1
    have hkp := hat.2.2.1
    by_cases hp : pos < s.size
    · have hnx : ∀ ty, (Instr.next (.pointer (some ⟨w.heap.size, 0, none⟩)) true ty).run Try.prog wr = _ := fun ty => Lib.run_next_any_at wr w.heap.size s pos ty hk hp
      simp only [dec_eq] at hnx
      have hw := width_le _ (drop_ne hp)
      have hsz : (s.data.toList.drop pos).length = s.size - pos := by simp
      have hn := (hat.next hp).1
      have hit := hat.iter
      have hit2 := hn.iter
      have htk := hat.2.1
      have HN := Lib.hid (show _ ∧ _ ∧ _ from ⟨hn, hit, hit2⟩)
      have hw2 : pos + (dec (s.data.toList.drop pos)).2 ≤ s.size ∧ pos < pos + (dec (s.data.toList.drop pos)).2 := by omega
      have HW := Lib.hid hw2
      have HT := Lib.hid htk
      have hb := Lib.hid hn.2.2.2.2
      clear hat hn hit hit2 hk hw hsz hw2 htk
      generalize pos + (dec (s.data.toList.drop pos)).2 = p2 at *
      generalize wr.iterAt w.heap.size s p2 = W1 at *
      by_cases hlt : n0 - k < 1
      · have hf : firstT s.data.toList n0 = s.data.toList.take pos := by
          unfold firstT
          rw [show n0.toNat = k by omega, HT.out]
        have HF := Lib.hid hf
        clear hf
        go_wp2
        go_ret
        exact ⟨ret_val (by rw [HF.out]; exact congrArg Value.string (ext_take s pos)), hb.out⟩
      · go_wp2
        go_roundw
        case rel => exact ⟨p2, k + 1, by go_num, HW.out.1, Or.inr (by omega), HN.out.1⟩
        case measure => rw [HN.out.2.1, HN.out.2.2]; have := HW.out; omega
    · have hnx : ∀ ty, (Instr.next (.pointer (some ⟨w.heap.size, 0, none⟩)) true ty).run Try.prog wr = _ := fun ty => Lib.run_next_end_at wr w.heap.size s pos ty hk hp
      have hc := hat.count hp
      have hb := hat.2.2.2.2
      have he : firstT s.data.toList n0 = s.data.toList := by
        unfold firstT
        have h2 := hat.2.1
        rw [List.take_of_length_le hc, List.take_of_length_le (show s.data.toList.length ≤ pos by simp; omega)] at h2
        by_cases hz : (pcs s.data.toList).length = 0
        · rw [List.length_eq_zero_iff.1 hz] at h2 ⊢
          simpa using h2
        · rw [List.take_of_length_le (by omega)]
          exact h2
      have HE := Lib.hid he
      clear hat hk he hc
      go_wp2
      go_ret
      exact ⟨ret_val (by rw [HE.out]; exact congrArg Value.string (str_list s)), hb⟩
end Go.Proofs.Ytajheohdhiojcaa
