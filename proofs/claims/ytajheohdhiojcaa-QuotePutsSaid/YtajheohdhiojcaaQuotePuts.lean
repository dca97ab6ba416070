/- The laws QuotePuts and QuoteGets, walked: each returns true; nothing that was there has turned. No condition. -/
import Derived.Test.YtajheohdhiojcaaQuoteRPut
namespace Go.Proofs.Ytajheohdhiojcaa
open Go.RowKit

theorem txt_self (s : ByteArray) : txt s.data.toList = s := (str_list s).symm

set_option maxHeartbeats 1600000 in
set_option maxRecDepth 100000 in
theorem quotePuts_any (s : ByteArray) (w : World) :
    Calls Try.prog 7 #[.string s] w fun e w' => e = .returned (.bool true) ∧ Below w.heap.size w w' := by
  have HL := fun w => Lib.hid (lives02 w)
  by_cases hs : s.size ≤ 1000
  · have h1 := fun w => put_txt s hs w
    have hpl := put_len s.data.toList
    rw [len_toList] at hpl
    have h2 : ∀ w, Calls Try.prog 32 #[.string (txt (put s.data.toList))] w fun e w' => e = .returned (.tuple #[.string s, .int .i64 0]) ∧ Below w.heap.size w w' := fun w => by
      have h := get_any (txt (put s.data.toList)) w (by rw [txt_size]; omega)
      unfold GetGives at h
      rw [txt_data, get_put] at h
      change Calls _ _ _ _ (fun e w' => e = .returned (.tuple #[.string (txt s.data.toList), .int .i64 0]) ∧ _) at h
      rw [txt_self] at h
      exact h
    have h3 := fun w => rput_any s w (by omega)
    have H1 := fun w => Lib.hid (h1 w)
    have H2 := fun w => Lib.hid (h2 w)
    have H3 := fun w => Lib.hid (h3 w)
    clear h1 h2 h3
    generalize txt (put s.data.toList) = T at *
    have f1 : (T.toList == T.toList) = true := by simp
    have f2 : (s.toList == s.toList) = true := by simp
    have gs : (s.size : Int) ≤ 1000 := by omega
    clear hs
    go_enter Try.func7, Try.ntmps7
    go_wp2_with fail
    refine (H1 _).out.mono ?_
    rintro e w1 ⟨rfl, hb1⟩
    go_wp2_with fail
    refine (H2 _).out.mono ?_
    rintro e w2 ⟨rfl, hb2⟩
    have b2 := hb1.trans (hb2.mono hb1.size)
    clear hb1 hb2
    go_wp2_with fail
    refine (H3 _).out.mono ?_
    rintro e w3 ⟨rfl, hb3⟩
    have b3 := b2.trans (hb3.mono b2.size)
    clear b2 hb3
    go_wp2_with fail
    refine (HL _).out.mono ?_
    rintro e w4 ⟨rfl, hb4⟩
    go_wp2
    go_ret
    exact ⟨rfl, b3.trans (hb4.mono b3.size)⟩
  · have gs : (1000 : Int) < s.size := by omega
    clear hs
    go_enter Try.func7, Try.ntmps7
    go_wp2_with fail
    refine (HL _).out.mono ?_
    rintro e w1 ⟨rfl, hb1⟩
    go_wp2
    go_ret
    exact ⟨rfl, hb1⟩

theorem get_two (l : List UInt8) : (∃ t, get l = (t, 0) ∧ put t = l ∧ t.length ≤ 4 * l.length) ∨ get l = ([], 10) := by
  unfold get
  cases hu : unquote l with
  | none => right; rfl
  | some t =>
    by_cases hp : put t = l
    · left; exact ⟨t, by simp [hp], hp, unquote_len l t hu⟩
    · right; simp [hp]

set_option maxHeartbeats 1600000 in
set_option maxRecDepth 100000 in
theorem quoteGets_any (s : ByteArray) (w : World) :
    Calls Try.prog 8 #[.string s] w fun e w' => e = .returned (.bool true) ∧ Below w.heap.size w w' := by
  have HL := fun w => Lib.hid (lives02 w)
  by_cases hs : s.size ≤ 1000
  · have hg := fun w => get_any s w (by omega)
    unfold GetGives at hg
    have gs : (s.size : Int) ≤ 1000 := by omega
    rcases get_two s.data.toList with ⟨t, e1, e2, e3⟩ | e1
    · rw [len_toList] at e3
      rw [e1] at hg
      change ∀ w, Calls _ _ _ _ (fun e w' => e = .returned (.tuple #[.string (txt t), .int .i64 0]) ∧ _) at hg
      have hr : ∀ w, Calls Try.prog 33 #[.string (txt t)] w fun e w' => e = .returned (.string s) ∧ Below w.heap.size w w' := fun w => by
        have h := rput_any (txt t) w (by rw [txt_size]; omega)
        rw [txt_data, e2, txt_self] at h
        exact h
      have HG := fun w => Lib.hid (hg w)
      have HR := fun w => Lib.hid (hr w)
      have f2 : (s.toList == s.toList) = true := by simp
      clear hg hr e1 e2 e3 hs
      generalize txt t = T at *
      go_enter Try.func8, Try.ntmps8
      go_wp2_with fail
      refine (HG _).out.mono ?_
      rintro e w1 ⟨rfl, hb1⟩
      go_wp2_with fail
      refine (HR _).out.mono ?_
      rintro e w2 ⟨rfl, hb2⟩
      have b2 := hb1.trans (hb2.mono hb1.size)
      clear hb1 hb2
      go_wp2_with fail
      refine (HL _).out.mono ?_
      rintro e w4 ⟨rfl, hb4⟩
      go_wp2
      go_ret
      exact ⟨rfl, b2.trans (hb4.mono b2.size)⟩
    · rw [e1] at hg
      change ∀ w, Calls _ _ _ _ (fun e w' => e = .returned (.tuple #[.string ⟨#[]⟩, .int .i64 10]) ∧ _) at hg
      have HG := fun w => Lib.hid (hg w)
      clear hg e1 hs
      go_enter Try.func8, Try.ntmps8
      go_wp2_with fail
      refine (HG _).out.mono ?_
      rintro e w1 ⟨rfl, hb1⟩
      go_wp2_with fail
      refine (HL _).out.mono ?_
      rintro e w4 ⟨rfl, hb4⟩
      go_wp2
      go_ret
      exact ⟨rfl, hb1.trans (hb4.mono hb1.size)⟩
  · have gs : (1000 : Int) < s.size := by omega
    clear hs
    go_enter Try.func8, Try.ntmps8
    go_wp2_with fail
    refine (HL _).out.mono ?_
    rintro e w1 ⟨rfl, hb1⟩
    go_wp2
    go_ret
    exact ⟨rfl, hb1⟩
end Go.Proofs.Ytajheohdhiojcaa
