/- The law QuoteShows, walked: it returns true; nothing that was there has turned. No condition. -/
import Derived.Test.YtajheohdhiojcaaQuoteLives
import Derived.Test.YtajheohdhiojcaaQuoteFine
namespace Go.Proofs.Ytajheohdhiojcaa
open Go.RowKit

theorem qs_len (l : List UInt8) : (qs l).length ≤ 6 * l.length := by
  by_cases h : l = []
  · subst h; rw [qs_nil]; simp
  · have h1 := q_len l h
    have h2 := qs_len (l.drop (dec l).2)
    have h3 := width_le l h
    rw [List.length_drop] at h2
    rw [qs_cons h, List.length_append]
    omega
termination_by l.length
decreasing_by exact drop_lt l h

theorem put_len (l : List UInt8) : (put l).length ≤ 6 * l.length + 2 := by
  have := qs_len l
  unfold put
  simp
  omega

/-- The text of a list of bytes. -/
def txt (l : List UInt8) : ByteArray := ⟨l.toArray⟩
theorem txt_data (l : List UInt8) : (txt l).data.toList = l := by simp [txt]
theorem txt_size (l : List UInt8) : (txt l).size = l.length := by simp [txt, ByteArray.size]
theorem txt_inj {a b : List UInt8} (h : txt a = txt b) : a = b := by rw [← txt_data a, ← txt_data b, h]

theorem put_txt (s : ByteArray) (hs : s.size ≤ 1000) (w : World) : Calls Try.prog 31 #[.string s] w fun e w' => e = .returned (.string (txt (put s.data.toList))) ∧ Below w.heap.size w w' := put_any s w (by omega)

/-- A range over a fine text. -/
def FineAt (S : ByteArray) (wk wr : World) (pos : Nat) : Prop :=
  Fine (S.data.toList.drop pos) ∧ pos ≤ S.size ∧ wr.heap[wk.heap.size]? = some (.stringIter S pos) ∧ Below wk.heap.size wk wr

theorem FineAt.next {S : ByteArray} {wk wr : World} {pos : Nat} (h : FineAt S wk wr pos) (hp : pos < S.size) :
    FineAt S wk (wr.iterAt wk.heap.size S (pos + (dec (S.data.toList.drop pos)).2)) (pos + (dec (S.data.toList.drop pos)).2) ∧ okr (dec (S.data.toList.drop pos)).1
      ∧ S.size - (wr.iterAt wk.heap.size S (pos + (dec (S.data.toList.drop pos)).2)).iterPos wk.heap.size < S.size - wr.iterPos wk.heap.size := by
  obtain ⟨h1, h2, h3, h4⟩ := h
  have hw := width_le _ (drop_ne hp)
  have hl : (S.data.toList.drop pos).length = S.size - pos := by simp
  obtain ⟨g1, g2, g3⟩ := h1.head (drop_ne hp)
  rw [List.drop_drop] at g3
  have hk := Lib.iterAt_heap wr _ S pos (pos + (dec (S.data.toList.drop pos)).2) h3
  refine ⟨⟨g3, by omega, hk, Lib.below_iterAt h4 (Nat.le_refl _) S _⟩, g1, ?_⟩
  have e1 : wr.iterPos wk.heap.size = pos := by unfold World.iterPos; rw [h3]
  have e2 : (wr.iterAt wk.heap.size S (pos + (dec (S.data.toList.drop pos)).2)).iterPos wk.heap.size = pos + (dec (S.data.toList.drop pos)).2 := by unfold World.iterPos; rw [hk]
  rw [e1, e2]
  omega

set_option maxHeartbeats 1600000 in
set_option maxRecDepth 100000 in
theorem shows_long (a b : ByteArray) (w : World) (h : 1000 < a.size ∨ a.size ≤ 1000 ∧ 1000 < b.size) :
    Calls Try.prog 10 #[.string a, .string b] w fun e w' => e = .returned (.bool true) ∧ Below w.heap.size w w' := by
  have HL := fun w => Lib.hid (lives02 w)
  have hI : (1000 : Int) < a.size ∨ (a.size : Int) ≤ 1000 ∧ (1000 : Int) < b.size := by omega
  clear h
  rcases hI with h | ⟨h, h2⟩
  all_goals
    go_enter Try.func10, Try.ntmps10
    go_wp2_with fail
    refine (HL _).out.mono ?_
    rintro e w1 ⟨rfl, hb1⟩
    go_wp2
    go_ret
    exact ⟨rfl, hb1⟩

set_option maxHeartbeats 4000000 in
set_option maxRecDepth 100000 in
theorem shows_main (a b : ByteArray) (w : World) (ha : a.size ≤ 1000) (hb : b.size ≤ 1000) :
    Calls Try.prog 10 #[.string a, .string b] w fun e w' => e = .returned (.bool true) ∧ Below w.heap.size w w' := by
  have hpa := put_txt a ha
  have hpb := put_txt b hb
  have hfa := fine_put a.data.toList
  have hla := put_len a.data.toList
  rw [len_toList] at hla
  have hst : ∀ w, Calls Try.prog 38 #[.string (txt (put a.data.toList))] w fun e w' => e = .returned (.int .i64 0) ∧ Below w.heap.size w w' := fun w => by
    have h := strays_any (txt (put a.data.toList)) w (by rw [txt_size]; omega)
    rw [txt_data, hfa.noStray] at h
    exact h
  have heq : ((txt (put a.data.toList)).toList == (txt (put b.data.toList)).toList) = (a.toList == b.toList) := by
    by_cases e : a = b
    · subst e; simp
    · rw [str_ne e]
      refine str_ne fun e2 => e ?_
      have := put_inj _ _ (txt_inj e2)
      rw [str_list a, str_list b, this]
  have hf0 : Fine ((txt (put a.data.toList)).data.toList.drop 0) := by rw [txt_data]; simpa using hfa
  have hsz : (txt (put a.data.toList)).size ≤ 6002 := by rw [txt_size]; omega
  clear hfa hla
  generalize txt (put a.data.toList) = S at *
  generalize txt (put b.data.toList) = T at *
  have hq : ((S.toList == T.toList) = true ∧ (a.toList == b.toList) = true) ∨ ((S.toList == T.toList) = false ∧ (a.toList == b.toList) = false) := by
    rw [heq]
    cases (a.toList == b.toList) <;> simp
  have HPA := fun w => Lib.hid (hpa w)
  have HPB := fun w => Lib.hid (hpb w)
  have HST := fun w => Lib.hid (hst w)
  have HF := Lib.hid hf0
  have HL := fun w => Lib.hid (lives02 w)
  have gA : (a.size : Int) ≤ 1000 := by omega
  have gB : (b.size : Int) ≤ 1000 := by omega
  clear hpa hpb hst hf0 heq ha hb
  rcases hq with ⟨q1, q2⟩ | ⟨q1, q2⟩
  all_goals
    go_enter Try.func10, Try.ntmps10
    go_wp2_with fail
    refine (HPA _).out.mono ?_
    rintro e w1 ⟨rfl, hb1⟩
    go_wp2_with fail
    refine (HPB _).out.mono ?_
    rintro e w2 ⟨rfl, hb2⟩
    go_wp2_with fail
    refine (HST _).out.mono ?_
    rintro e w3 ⟨rfl, hb3⟩
    have hb123 := (hb1.trans (hb2.mono hb1.size)).trans (hb3.mono (Nat.le_trans hb1.size hb2.size))
    clear hb1 hb2 hb3
    go_wp2
    go_loopw [8] (fun _ wr => ∃ pos, FineAt S w3 wr pos) (fun _ wr => S.size - wr.iterPos w3.heap.size)
    case atStart => exact ⟨0, HF.out, Nat.zero_le _, World.iter_heap w3 S 0, (Below.refl _ _).alloc (Nat.le_refl _) _⟩
    case round =>
      obtain ⟨pos, hat⟩ := hrel
      have hk := hat.2.2.1
      by_cases hp : pos < S.size
      · have hnx : ∀ ty, (Instr.next (.pointer (some ⟨w3.heap.size, 0, none⟩)) true ty).run Try.prog wr = _ := fun ty => Lib.run_next_any_at wr w3.heap.size S pos ty hk hp
        simp only [dec_eq] at hnx
        have hn := hat.next hp
        have hok : ((32 : Int) ≤ ((dec (S.data.toList.drop pos)).1 : Nat) ∧ (((dec (S.data.toList.drop pos)).1 : Nat) : Int) < 127) ∨ (160 : Int) ≤ ((dec (S.data.toList.drop pos)).1 : Nat) := by
          have := hn.2.1; unfold okr at this; omega
        have HN := Lib.hid hn
        clear hat hn hk
        generalize pos + (dec (S.data.toList.drop pos)).2 = p2 at *
        generalize wr.iterAt w3.heap.size S p2 = W1 at *
        generalize (dec (S.data.toList.drop pos)).1 = R at *
        rcases hok with ⟨k1, k2⟩ | k1
        all_goals
          go_wp2
          go_roundw
          case rel => exact ⟨p2, HN.out.1⟩
          case measure => exact HN.out.2.2
      · have hnx : ∀ ty, (Instr.next (.pointer (some ⟨w3.heap.size, 0, none⟩)) true ty).run Try.prog wr = _ := fun ty => Lib.run_next_end_at wr w3.heap.size S pos ty hk hp
        have hb4 := hat.2.2.2
        clear hat hk
        go_wp2_with fail
        refine (HL _).out.mono ?_
        rintro e w5 ⟨rfl, hb5⟩
        go_wp2
        go_ret
        have hb6 := hb123.trans (hb4.mono hb123.size)
        exact ⟨rfl, hb6.trans (hb5.mono hb6.size)⟩

theorem quoteShows_any (a b : ByteArray) (w : World) :
    Calls Try.prog 10 #[.string a, .string b] w fun e w' => e = .returned (.bool true) ∧ Below w.heap.size w w' := by
  by_cases h1 : a.size ≤ 1000
  · by_cases h2 : b.size ≤ 1000
    · exact shows_main a b w h1 h2
    · exact shows_long a b w (by omega)
  · exact shows_long a b w (by omega)
end Go.Proofs.Ytajheohdhiojcaa
