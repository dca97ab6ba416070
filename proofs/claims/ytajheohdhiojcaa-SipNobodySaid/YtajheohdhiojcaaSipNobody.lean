/- The law SipNobody, walked: it returns true; nothing that was there has turned. Conditions: numbers of 64 bits, a text of at most 2^43 bytes where it is longer than 1000. -/
import Derived.Test.YtajheohdhiojcaaEyeRest
import Derived.Test.YtajheohdhiojcaaSipLives
import Derived.Test.YtajheohdhiojcaaSipWrite
namespace Go.Proofs.Ytajheohdhiojcaa
open Go.RowKit

def WroteNil (w w' : World) (e : Ending) : Prop := (∃ v, e = .returned v) ∧ Below w.heap.size w w'

theorem wrote {w w1 w2 : World} {v : Value} (h1 : Below w.heap.size w w1) (k : Below w1.heap.size w1 w2) : WroteNil w w2 (.returned v) := ⟨⟨v, rfl⟩, h1.trans (k.mono h1.size)⟩

set_option maxHeartbeats 1600000 in
set_option maxRecDepth 100000 in
theorem write_nil (kind int most : Int) (num : Nat) (text : ByteArray) (w : World) (hnum : num < 18446744073709551616) (h0 : -9223372036854775808 ≤ int) (h1 : int ≤ 9223372036854775807) (hs : text.size ≤ 8796093022208) :
    Calls Try.prog 17 #[.pointer none, .agg #[.int .i64 kind, .int .u64 num, .int .i64 int, .string text, .int .i64 most]] w fun e w' => WroteNil w w' e := by
  by_cases c1 : kind = 1
  · have hk1 : (kind == 1) = true := by simpa using c1
    have hz := Lib.zigzag_lt h0 h1
    clear c1
    go_enter Try.func17, Try.ntmps17
    go_wp2_with fail
    refine (penInt_nil _ (w.heap.size + 1) int h0 h1 (by simp)).mono ?_
    rintro e w1 ⟨rfl, hb⟩
    have hc : w1.cell? ⟨w.heap.size, 2, none⟩ = some (.int .i64 int) := by rw [hb.cell (by simp; omega)]; simp
    have hb' : Below w.heap.size w w1 := (((Below.refl _ _).alloc (Nat.le_refl _) _).alloc (by simp) _).trans (hb.mono (by simp; omega))
    clear hb
    go_wp2_with fail
    refine (refTurn_any int _ h0 h1).mono ?_
    rintro e w2 ⟨rfl, rfl⟩
    go_wp2_with fail
    refine (refNum_any (Lib.zigzag int) _ hz).mono ?_
    rintro e w2 ⟨v, rfl, hown, hbel⟩
    go_wp2
    go_ret
    exact wrote hb' hbel
  have hk1 : (kind == 1) = false := by simpa using c1
  by_cases c2 : kind = 2
  · have hk2 : (kind == 2) = true := by simpa using c2
    clear c1 c2
    go_enter Try.func17, Try.ntmps17
    go_wp2_with fail
    refine (penTruth_nil _ (w.heap.size + 1) ((num : Int) % 2 == 1) (by simp)).mono ?_
    rintro e w1 ⟨rfl, hb⟩
    have hc : w1.cell? ⟨w.heap.size, 1, none⟩ = some (.int .u64 num) := by rw [hb.cell (by simp; omega)]; simp
    have hb' : Below w.heap.size w w1 := (((Below.refl _ _).alloc (Nat.le_refl _) _).alloc (by simp) _).trans (hb.mono (by simp; omega))
    clear hb
    go_wp2
    go_ret
    exact wrote hb' ((Below.refl _ _).alloc (Nat.le_refl _) _)
  have hk2 : (kind == 2) = false := by simpa using c2
  by_cases c3 : kind = 3
  · have hk3 : (kind == 3) = true := by simpa using c3
    clear c1 c2 c3
    go_enter Try.func17, Try.ntmps17
    go_wp2_with fail
    refine (penText_nil _ _).mono ?_
    rintro e w1 ⟨rfl, rfl⟩
    go_wp2_with fail
    refine (refText_any text _ hs).mono ?_
    rintro e w2 ⟨v, rfl, hown, hbel⟩
    go_wp2
    go_ret
    exact wrote ((Below.refl _ _).alloc (Nat.le_refl _) _) hbel
  have hk3 : (kind == 3) = false := by simpa using c3
  clear c1 c2 c3
  go_enter Try.func17, Try.ntmps17
  go_wp2_with fail
  refine (penNum_nil _ _).mono ?_
  rintro e w1 ⟨rfl, hw⟩
  have hc : w1.cell? ⟨w.heap.size, 1, none⟩ = some (.int .u64 num) := by rw [← hw]; simp
  have hb' : Below w.heap.size w w1 := by rw [← hw]; exact ((Below.refl _ _).alloc (Nat.le_refl _) _).alloc (by simp) _
  clear hw
  go_wp2_with fail
  refine (refNum_any num _ hnum).mono ?_
  rintro e w2 ⟨v, rfl, hown, hbel⟩
  go_wp2
  go_ret
  exact wrote hb' hbel

set_option maxHeartbeats 1600000 in
set_option maxRecDepth 100000 in
theorem sipNobody_any (kind int most : Int) (num : Nat) (text : ByteArray) (w : World) (hnum : num < 18446744073709551616) (h0 : -9223372036854775808 ≤ int) (h1 : int ≤ 9223372036854775807) :
    Calls Try.prog 6 #[.agg #[.int .i64 kind, .int .u64 num, .int .i64 int, .string text, .int .i64 most]] w fun e w' => e = .returned (.bool true) ∧ Below w.heap.size w w' := by
  by_cases hs : text.size ≤ 1000
  · have gs : (text.size : Int) ≤ 1000 := by omega
    go_enter Try.func6, Try.ntmps6
    go_wp2_with fail
    refine (write_nil kind int most num text _ hnum h0 h1 (by omega)).mono ?_
    rintro e w1 ⟨⟨v, rfl⟩, hb⟩
    have k1' : w1.cell? ⟨w.heap.size, 1, none⟩ = some (.int .u64 num) := by rw [hb.cell (by simp)]; simp
    have k4' : w1.cell? ⟨w.heap.size, 4, none⟩ = some (.int .i64 most) := by rw [hb.cell (by simp)]; simp
    have hlt : w.heap.size < w1.heap.size := by have := hb.size; simp at this; omega
    have hb1 : Below w.heap.size w w1 := ((Below.refl _ _).alloc (Nat.le_refl _) _).trans (hb.mono (by simp))
    clear hb
    obtain ⟨eb, heb⟩ : ∃ eb, eb = w1.heap.size := ⟨_, rfl⟩
    go_wp2_with fail
    refine (penLen_nil _).mono ?_
    rintro e w3 ⟨rfl, hw3⟩
    have k1 : w3.cell? ⟨w.heap.size, 1, none⟩ = some (.int .u64 num) := by rw [← hw3, World.cell?_alloc_past _ _ _ hlt]; exact k1'
    have k4 : w3.cell? ⟨w.heap.size, 4, none⟩ = some (.int .i64 most) := by rw [← hw3, World.cell?_alloc_past _ _ _ hlt]; exact k4'
    have he : Eye w3 w1.heap.size [] 0 := by rw [← hw3]; exact ⟨_, heap_alloc_new _ _, Bs.nil _ _⟩
    have hb3 : Below w.heap.size w w3 := by rw [← hw3]; exact hb1.alloc hb1.size _
    have hs3 : w1.heap.size < w3.heap.size := by rw [← hw3]; simp
    clear hw3 k1' k4' hb1
    rw [← heb] at he hs3 hlt ⊢
    clear heb
    go_wp2_with fail
    refine (penBytes_nil _).mono ?_
    rintro e w4 ⟨rfl, rfl⟩
    go_wp2_with fail
    refine (num_nil _ num).mono ?_
    rintro e w4 ⟨rfl, rfl⟩
    go_wp2_with fail
    refine (int_nil _).mono ?_
    rintro e w4 ⟨rfl, rfl⟩
    go_wp2_with fail
    refine (truth_nil _).mono ?_
    rintro e w4 ⟨rfl, rfl⟩
    go_wp2_with fail
    refine (text_nil _ most).mono ?_
    rintro e w4 ⟨rfl, rfl⟩
    go_wp2_with fail
    refine (left_nil _).mono ?_
    rintro e w4 ⟨rfl, rfl⟩
    go_wp2_with fail
    refine (fault_nil _).mono ?_
    rintro e w4 ⟨rfl, rfl⟩
    go_wp2_with fail
    refine (close_nil _).mono ?_
    rintro e w4 ⟨rfl, rfl⟩
    go_wp2_with fail
    refine (close_end eb 0 _ he).mono ?_
    rintro e w4 ⟨rfl, rfl⟩
    go_wp2_with fail
    refine (eyeInt_any _ eb [] he).mono ?_
    rintro e w5 ⟨rfl, ht⟩
    rw [rnum_nil] at ht
    have hb5 : Below w.heap.size w w5 := hb3.trans ⟨ht.2.os, ht.2.tape, ht.2.output, ht.2.size, fun k hk => ht.2.block k (by omega) (by omega)⟩
    have he5 := ht.1
    have hu : Lib.unzigzag (rnum 18446744073709551615 []).1 = 0 := by rw [rnum_nil]; rfl
    rw [hu]
    clear ht hu hb3
    go_wp2_with fail
    refine (fault_any eb 11 [] _ he5).mono ?_
    rintro e w6 ⟨rfl, rfl⟩
    go_wp2_with fail
    refine (lives01 _).mono ?_
    rintro e w7 ⟨rfl, hb7⟩
    go_wp2
    go_ret
    exact ⟨rfl, hb5.trans (hb7.mono hb5.size)⟩
  · have gs : (1000 : Int) < text.size := by omega
    clear hs
    go_enter Try.func6, Try.ntmps6
    go_wp2_with fail
    refine (lives01 _).mono ?_
    rintro e w1 ⟨rfl, hb1⟩
    go_wp2
    go_ret
    exact ⟨rfl, ((Below.refl _ _).alloc (Nat.le_refl _) _).trans (hb1.mono (by simp))⟩
end Go.Proofs.Ytajheohdhiojcaa
