/- quote.unquote and quote.Get by plain functions on bytes; nothing that was there has turned. Condition: a text of at most 2^40 bytes. -/
import Derived.Test.YtajheohdhiojcaaQuoteRead
namespace Go.Proofs.Ytajheohdhiojcaa
open Go.RowKit

theorem upart_le (l : List UInt8) (h : l ≠ []) : (upart l).2 ≤ l.length ∧ (upart l).1.length ≤ 4 * (upart l).2 := by
  have hp := sz_pos1 h
  have key : ∀ d n, unum d 0 (l.drop 2) = some n → d ≤ (l.drop 2).length := fun d n e => by
    by_cases hh : (l.drop 2).length < d
    · rw [unum_short d 0 _ hh] at e; simp at e
    · omega
  unfold upart
  split
  · simp; omega
  · split
    · simp
    · split
      · simp; omega
      · split
        · split
          · rename_i n e
            have := key 2 n e
            simp at this ⊢; omega
          · simp
        · split
          · split
            · rename_i n e
              have := key 4 n e
              have h4 := (Lib.encodeRuneZ_length (n : Nat)).2
              simp [Lib.encodeRune] at this ⊢; omega
            · simp
          · simp

def UnqGives (w w' : World) (e : Ending) (r : Option (List UInt8)) : Prop :=
  (match r with
  | some t => e = .returned (.tuple #[.string ⟨t.toArray⟩, .bool true])
  | none => e = .returned (.tuple #[.string ⟨#[]⟩, .bool false])) ∧ Below w.heap.size w w'

theorem iempty (r : ByteArray) : r.toList.isEmpty = decide (r.size = 0) := by
  rw [ByteArray.toList_eq, ← len_toList]
  cases r.data.toList <;> simp
theorem unq_none {w w' : World} (h : Below w.heap.size w w') : UnqGives w w' (.returned (.tuple #[.string ⟨#[]⟩, .bool false])) none := ⟨rfl, h⟩
theorem unq_some {w w' : World} {t : List UInt8} (h : Below w.heap.size w w') : UnqGives w w' (.returned (.tuple #[.string ⟨t.toArray⟩, .bool true])) (some t) := ⟨rfl, h⟩

set_option maxHeartbeats 1600000 in
set_option maxRecDepth 100000 in
theorem unq_bad0 (s : ByteArray) (w : World) (h : s.size < 2) :
    Calls Try.prog 67 #[.string s] w fun e w' => UnqGives w w' e (unquote s.data.toList) := by
  have hu : unquote s.data.toList = none := by unfold unquote; rw [if_pos (Or.inl (by rw [len_toList]; exact h))]
  have HU := Lib.hid hu
  clear hu
  go_enter Try.func67, Try.ntmps67
  go_wp2
  go_ret2
  rw [HU.out]
  exact unq_none (Below.refl _ _)

set_option maxHeartbeats 1600000 in
set_option maxRecDepth 100000 in
theorem unq_bad1 (s : ByteArray) (w : World) (h : 2 ≤ s.size) (h0 : (s[0]'(by omega)).toNat ≠ 34) :
    Calls Try.prog 67 #[.string s] w fun e w' => UnqGives w w' e (unquote s.data.toList) := by
  have hu : unquote s.data.toList = none := by unfold unquote; rw [if_pos (Or.inr (Or.inl (by rw [gb_at (by omega)]; exact h0)))]
  have HU := Lib.hid hu
  have d0 : (((s[0]'(by omega)).toNat : Int) != 34) = true := by simp; omega
  have hi : (0 : Int) < s.size := by omega
  clear hu h0
  go_enter Try.func67, Try.ntmps67
  go_wp2
  go_ret2
  rw [HU.out]
  exact unq_none (Below.refl _ _)

set_option maxHeartbeats 1600000 in
set_option maxRecDepth 100000 in
theorem unq_bad2 (s : ByteArray) (w : World) (h : 2 ≤ s.size) (h0 : (s[0]'(by omega)).toNat = 34) (h1 : (s[s.size - 1]'(by omega)).toNat ≠ 34) (hs : s.size ≤ 1099511627776) :
    Calls Try.prog 67 #[.string s] w fun e w' => UnqGives w w' e (unquote s.data.toList) := by
  have hu : unquote s.data.toList = none := by unfold unquote; rw [if_pos (Or.inr (Or.inr (by rw [len_toList, gb_at (by omega)]; exact h1)))]
  have HU := Lib.hid hu
  have d0 : (((s[0]'(by omega)).toNat : Int) != 34) = false := by simp; omega
  have d1 : (((s[s.size - 1]'(by omega)).toNat : Int) != 34) = true := by simp; omega
  have hi : (0 : Int) < s.size := by omega
  clear hu h0 h1
  go_enter Try.func67, Try.ntmps67
  go_wp2
  go_ret2
  rw [HU.out]
  exact unq_none (Below.refl _ _)

set_option maxHeartbeats 1600000 in
set_option maxRecDepth 100000 in
theorem unq_good (s : ByteArray) (w : World) (h : 2 ≤ s.size) (h0 : (s[0]'(by omega)).toNat = 34) (h1 : (s[s.size - 1]'(by omega)).toNat = 34) (hs : s.size ≤ 1099511627776) :
    Calls Try.prog 67 #[.string s] w fun e w' => UnqGives w w' e (unquote s.data.toList) := by
  have hu : unquote s.data.toList = uall (s.extract 1 (s.size - 1)).data.toList := by
    unfold unquote
    rw [if_neg]
    · rw [ext_mid, len_toList, show s.size - 1 - 1 = s.size - 2 by omega]
    · rintro (e | e | e)
      · rw [len_toList] at e; omega
      · rw [gb_at (by omega)] at e; exact e h0
      · rw [len_toList, gb_at (by omega)] at e; exact e h1
  have HU := Lib.hid hu
  have d0 : (((s[0]'(by omega)).toNat : Int) != 34) = false := by simp; omega
  have d1 : (((s[s.size - 1]'(by omega)).toNat : Int) != 34) = false := by simp; omega
  have hi : (0 : Int) < s.size := by omega
  obtain ⟨i0, hii, hz0, hz1, hz2⟩ := info_parts Try.info5q
  have hsz : (s.extract 1 (s.size - 1)).size = s.size - 2 := by simp; omega
  have HZ := Lib.hid hsz
  clear hu h0 h1 hsz
  go_enter Try.func67, Try.ntmps67
  go_wp2
  go_loopw [4, 5] (fun vr vb wr => ∃ (r : ByteArray) (acc : List UInt8), vr = .string r ∧ Own wr w.heap.size vb acc ∧ Hid (unquote s.data.toList = (uall r.data.toList).map (acc ++ ·)) ∧ acc.length + 4 * r.size ≤ 4 * s.size ∧ Below w.heap.size w wr) (fun vr _ _ => match vr with | .string r => r.size | _ => 0)
  case atStart =>
    refine ⟨_, [], rfl, World.ownsRow_nil _ _ _ _, Lib.hid (by rw [HU.out]; simp), ?_, Below.refl _ _⟩
    have := HZ.out
    simp only [List.length_nil]
    omega
  case round =>
    obtain ⟨r, acc, rfl, ho, hun, hlen, hb⟩ := hrel
    have hbz := hb.size
    by_cases hr : r.size = 0
    · have hem : r.toList.isEmpty = true := by rw [iempty]; simpa using hr
      have hrn : r.data.toList = [] := List.eq_nil_of_length_eq_zero (by rw [len_toList]; exact hr)
      have hun2 : unquote s.data.toList = some acc := by rw [hun.out, hrn, uall_nil]; simp
      have HN := Lib.hid hun2
      have hcv := conv_row ho
      obtain ⟨ao, c, rfl⟩ := own_sl ho
      clear hun2 hrn hun hr
      go_wp2
      go_ret2
      rw [HN.out]
      exact unq_some hb
    · have hem : r.toList.isEmpty = false := by rw [iempty]; simpa using hr
      have hr0 : 0 < r.size := by omega
      have hne : r.data.toList ≠ [] := List.ne_nil_of_length_pos (by rw [len_toList]; exact hr0)
      have hle := upart_le _ hne
      rw [len_toList] at hle
      have hpa := part_any r wr hr0
      by_cases hz : (upart r.data.toList).2 = 0
      · have hun2 : unquote s.data.toList = none := by rw [hun.out, uall_none hne hz]; rfl
        have HN := Lib.hid hun2
        have HP := Lib.hid hpa
        have HZ2 := Lib.hid hz
        clear hun2 hun hr hne hle hpa hz
        go_wp2_with fail
        refine HP.out.mono ?_
        rintro e w1 ⟨he, hb1⟩
        rw [HZ2.out] at he
        subst he
        go_wp2
        go_ret2
        rw [HN.out]
        exact unq_none (hb.trans (hb1.mono hbz))
      · have hun2 : unquote s.data.toList = (uall (r.data.toList.drop (upart r.data.toList).2)).map (fun x => acc ++ ((upart r.data.toList).1 ++ x)) := by
          rw [hun.out, uall_cons hne hz]
          cases uall (r.data.toList.drop (upart r.data.toList).2) <;> simp
        have hex := ext_drop r (upart r.data.toList).2
        have hxs : (r.extract (upart r.data.toList).2 r.size).size = r.size - (upart r.data.toList).2 := by simp
        rw [← hex] at hun2
        have HN := Lib.hid hun2
        have HP := Lib.hid hpa
        have HX := Lib.hid hxs
        have hown0 : ∀ w', Below wr.heap.size wr w' → Own w' w.heap.size u5 acc := fun w' h => by
          refine ⟨ho.1, ?_⟩
          rcases ho.2 with hn | ⟨g, cap, cur, rfl, hbg, hgg, rr⟩
          · exact Or.inl hn
          · exact Or.inr ⟨g, cap, cur, rfl, hbg, by rw [h.block g (lt_of_block hgg)]; exact hgg, rr⟩
        have HO := Lib.hid hown0
        have hk1 : 1 ≤ (upart r.data.toList).2 := by omega
        clear hun2 hun hr hne hpa hz hex hxs hown0
        generalize upart r.data.toList = pk at *
        obtain ⟨pc, k⟩ := pk
        simp only at hle hk1
        have hkne : ((k : Int) == 0) = false := by simp; omega
        have hpl : (⟨pc.toArray⟩ : ByteArray).size = pc.length := by simp [ByteArray.size]
        go_wp2_with fail
        refine HP.out.mono ?_
        rintro e w1 ⟨rfl, hb1⟩
        have ho1 := HO.out w1 hb1
        have hb1z := hb1.size
        go_wp2_with (at_builtin; refine wpList_append_str_sep _ rfl (.tmp 38) (.tmp 39) 25 9 rfl w.heap.size 5 i0 Try.underlying25 Try.underlying9 hii hz0 hz1 hz2 _ _ _ rfl ho1 ⟨pc.toArray⟩ rfl (by rw [hpl]; unfold maxLen; omega) (by rw [hpl]; omega) (by omega) ?_)
        intro v2 w2 hown2 hgrow2 _
        have ho2 : Own w2 w.heap.size v2 (acc ++ pc) := own_of hown2 (by rw [Lib.byteCells_append]; rfl)
        have hb2 : Below w.heap.size w w2 := (hb.trans (hb1.mono hbz)).grown hgrow2 (by omega) (fun k hk => (ho1.lt k hk).1)
        have H2 := Lib.hid ho2
        clear hown2 hgrow2 ho2 ho1 hpl ho
        go_wp2
        go_roundw
        case rel =>
          refine ⟨_, acc ++ pc, rfl, H2.out, Lib.hid (by rw [HN.out]; simp only [List.append_assoc]), ?_, hb2⟩
          have := HX.out
          rw [List.length_append, this]
          omega
        case measure => have := HX.out; show (r.extract k r.size).size < r.size; omega

theorem unq_any (s : ByteArray) (w : World) (hs : s.size ≤ 1099511627776) :
    Calls Try.prog 67 #[.string s] w fun e w' => UnqGives w w' e (unquote s.data.toList) := by
  by_cases h : s.size < 2
  · exact unq_bad0 s w h
  by_cases h0 : (s[0]'(by omega)).toNat = 34
  · by_cases h1 : (s[s.size - 1]'(by omega)).toNat = 34
    · exact unq_good s w (by omega) h0 h1 hs
    · exact unq_bad2 s w (by omega) h0 h1 hs
  · exact unq_bad1 s w (by omega) h0

theorem uall_len (l t : List UInt8) (h : uall l = some t) : t.length ≤ 4 * l.length := by
  by_cases hn : l = []
  · subst hn; rw [uall_nil] at h; injection h with h; subst h; simp
  · by_cases hz : (upart l).2 = 0
    · rw [uall_none hn hz] at h; simp at h
    · rw [uall_cons hn hz] at h
      have hp := sz_pos1 hn
      have hle := upart_le l hn
      cases hu : uall (l.drop (upart l).2) with
      | none => rw [hu] at h; simp at h
      | some t2 =>
        rw [hu] at h
        simp at h
        have := uall_len (l.drop (upart l).2) t2 hu
        rw [← h, List.length_append]
        rw [List.length_drop] at this
        omega
termination_by l.length
decreasing_by
  have := sz_pos1 hn
  rw [List.length_drop]; omega

theorem unquote_len (l t : List UInt8) (h : unquote l = some t) : t.length ≤ 4 * l.length := by
  unfold unquote at h
  split at h
  · simp at h
  · have := uall_len _ _ h
    simp at this
    omega

theorem str_ne {a b : ByteArray} (h : a ≠ b) : (a.toList == b.toList) = false := by
  rw [beq_eq_false_iff_ne, ByteArray.toList_eq, ByteArray.toList_eq]
  intro e
  apply h
  rw [str_list a, str_list b, e]
theorem str_eq {a b : ByteArray} (h : a = b) : (a.toList == b.toList) = true := by rw [h]; simp

def GetGives (w w' : World) (e : Ending) (r : List UInt8 × Nat) : Prop := e = .returned (.tuple #[.string ⟨r.1.toArray⟩, .int .i64 (r.2 : Nat)]) ∧ Below w.heap.size w w'

set_option maxHeartbeats 1600000 in
set_option maxRecDepth 100000 in
theorem get_any (s : ByteArray) (w : World) (hs : s.size ≤ 1099511627776) :
    Calls Try.prog 32 #[.string s] w fun e w' => GetGives w w' e (get s.data.toList) := by
  have hun := unq_any s w hs
  have hget : get s.data.toList = get s.data.toList := rfl
  cases hu : unquote s.data.toList with
  | none =>
    have hg : get s.data.toList = ([], 10) := by unfold get; rw [hu]
    rw [hu] at hun
    have HN := Lib.hid hun
    have HG := Lib.hid hg
    clear hun hu hg hget
    go_enter Try.func32, Try.ntmps32
    go_wp2_with fail
    refine HN.out.mono ?_
    rintro e w1 ⟨he, hb⟩
    simp only at he
    subst he
    go_wp2
    go_ret2
    refine ⟨?_, hb⟩
    rw [HG.out]
    rfl
  | some t =>
    have htl := unquote_len _ _ hu
    rw [len_toList] at htl
    rw [hu] at hun
    have hts : (⟨t.toArray⟩ : ByteArray).size = t.length := by simp [ByteArray.size]
    have hpt := fun w => put_any ⟨t.toArray⟩ w (by rw [hts]; omega)
    have e1 : (⟨t.toArray⟩ : ByteArray).data.toList = t := by simp
    rw [e1] at hpt
    have HN := Lib.hid hun
    have HP := fun w => Lib.hid (hpt w)
    by_cases hpe : put t = s.data.toList
    · have hg : get s.data.toList = (t, 0) := by unfold get; rw [hu]; simp [hpe]
      have hse : (⟨(put t).toArray⟩ : ByteArray) = s := (congrArg (fun l : List UInt8 => (⟨l.toArray⟩ : ByteArray)) hpe).trans (str_list s).symm
      have HG := Lib.hid hg
      rw [hse] at hpt
      have HP2 := fun w => Lib.hid (hpt w)
      clear hun hu hg hget hpt hts e1 hse hpe HP
      go_enter Try.func32, Try.ntmps32
      go_wp2_with fail
      refine HN.out.mono ?_
      rintro e w1 ⟨he, hb⟩
      simp only at he
      subst he
      go_wp2_with fail
      refine (HP2 _).out.mono ?_
      rintro e w2 ⟨rfl, hb2⟩
      go_wp2
      go_ret2
      refine ⟨?_, hb.trans (hb2.mono hb.size)⟩
      rw [HG.out]
      rfl
    · have hg : get s.data.toList = ([], 10) := by unfold get; rw [hu]; simp [hpe]
      have hse : (⟨(put t).toArray⟩ : ByteArray) ≠ s := fun e => hpe (by have := congrArg (fun x : ByteArray => x.data.toList) e; simpa using this)
      have HG := Lib.hid hg
      obtain ⟨S2, hS2⟩ : ∃ S2 : ByteArray, S2 = ⟨(put t).toArray⟩ := ⟨_, rfl⟩
      rw [← hS2] at hpt hse
      have HP2 := fun w => Lib.hid (hpt w)
      have hneq := str_ne hse
      clear hun hu hg hget hpt hts e1 hse hpe HP hS2
      go_enter Try.func32, Try.ntmps32
      go_wp2_with fail
      refine HN.out.mono ?_
      rintro e w1 ⟨he, hb⟩
      simp only at he
      subst he
      go_wp2_with fail
      refine (HP2 _).out.mono ?_
      rintro e w2 ⟨rfl, hb2⟩
      go_wp2
      go_ret2
      refine ⟨?_, hb.trans (hb2.mono hb.size)⟩
      rw [HG.out]
      rfl
end Go.Proofs.Ytajheohdhiojcaa
