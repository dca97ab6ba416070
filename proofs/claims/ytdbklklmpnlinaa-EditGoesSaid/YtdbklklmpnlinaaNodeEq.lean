/- slices.Equal at texts, words and numbers; bowerref04.Same: whether two rows are the same. Nothing that was there has turned. -/
import Derived.Test.YtdbklklmpnlinaaNodeCheck2
namespace Go.Proofs.Ytdbklklmpnlinaa
open Go.RowKit

theorem rows_ne {α : Type} {xs ys : List α} (d : α) (i : Nat) (h : xs.getD i d ≠ ys.getD i d) : xs ≠ ys := fun e => h (by rw [e])
theorem rows_eq {α : Type} {xs ys : List α} (d : α) (hl : xs.length = ys.length) (h : ∀ i, i < xs.length → xs.getD i d = ys.getD i d) : xs = ys := by
  apply List.ext_getElem hl
  intro i h1 h2
  have := h i h1
  rw [List.getD_eq_getElem?_getD, List.getD_eq_getElem?_getD, List.getElem?_eq_getElem h1, List.getElem?_eq_getElem h2] at this
  exact this

set_option maxHeartbeats 2000000 in
set_option maxRecDepth 100000 in
theorem rsameStr_any (a1 a2 : Option Addr) (n1 c1 n2 c2 : Nat) (xs ys : List ByteArray) (b : Bool) (w : World) (h1 : Rd w (.slice a1 n1 c1) (xs.map Value.string)) (h2 : Rd w (.slice a2 n2 c2) (ys.map Value.string)) (hb : b = true ↔ xs = ys) :
    Calls Try.prog 53 #[.slice a1 n1 c1, .slice a2 n2 c2] w fun e w' => e = .returned (.bool b) ∧ Drew w w' := by
  have H1 := Lib.hid h1
  have H2 := Lib.hid h2
  have l1 := rd_len h1
  have l2 := rd_len h2
  have m1 := l1.2.1
  have m2 := l1.2.2
  have m3 := l2.2.1
  have m4 := l2.2.2
  have HL := Lib.hid (And.intro l1.1 l2.1)
  have HBB := Lib.hid hb
  clear h1 h2 hb l1 l2
  by_cases hn : n1 = n2
  · subst hn
    have g1 : ((n1 : Int) != (n1 : Int)) = false := by simp
    go_enter Try.func53, Try.ntmps53
    go_wp2
    go_loopw [5] (fun s wr => ∃ i : Nat, s = .int .i64 i ∧ i ≤ n1 ∧ Drew w wr ∧ Hid (∀ j, j < i → xs.getD j (⟨#[]⟩ : ByteArray) = ys.getD j (⟨#[]⟩ : ByteArray))) (fun s _ => n1 - (intOf s).toNat)
    case atStart => exact ⟨0, rfl, Nat.zero_le _, Drew.refl w, Lib.hid (fun j hj => absurd hj (Nat.not_lt_zero _))⟩
    case round =>
      obtain ⟨i, rfl, hi, hd, hall⟩ := hrel
      by_cases hlt : i < n1
      · obtain ⟨p1, o1, e1, hc1⟩ := rd_at (H1.out.keep (hd.below _)) (⟨#[]⟩ : ByteArray) i hlt
        obtain ⟨p2, o2, e2, hc2⟩ := rd_at (H2.out.keep (hd.below _)) (⟨#[]⟩ : ByteArray) i hlt
        have k1 := hc1 i hlt
        have k2 := hc2 i hlt
        subst e1 e2
        have hlt' : (i : Int) < n1 := by omega
        clear hc1 hc2
        by_cases he : xs.getD i (⟨#[]⟩ : ByteArray) = ys.getD i (⟨#[]⟩ : ByteArray)
        · have HN : Hid (∀ j, j < i + 1 → xs.getD j (⟨#[]⟩ : ByteArray) = ys.getD j (⟨#[]⟩ : ByteArray)) := Lib.hid (fun j hj => by
            by_cases e : j = i
            · subst e; exact he
            · exact hall.out j (by omega))
          have z1 := (txt_is he).1
          have z2 := (txt_is he).2
          clear he
          generalize xs.getD i (⟨#[]⟩ : ByteArray) = x at *
          generalize ys.getD i (⟨#[]⟩ : ByteArray) = y at *
          go_wp2
          go_quiet (fail)
          go_wp2
          go_roundw
          case rel => exact ⟨i + 1, by go_num, by omega, hd.trans ⟨_, rfl⟩, HN⟩
          case measure => simp [intOf]; omega
        · have HN : Hid (b = false) := Lib.hid (bool_no HBB.out (rows_ne (⟨#[]⟩ : ByteArray) i he))
          have z1 := (txt_not he).1
          have z2 := (txt_not he).2
          clear he
          generalize xs.getD i (⟨#[]⟩ : ByteArray) = x at *
          generalize ys.getD i (⟨#[]⟩ : ByteArray) = y at *
          go_wp2
          go_quiet (fail)
          go_wp2
          go_ret
          exact ⟨ret_b HN.out.symm, hd.trans ⟨_, rfl⟩⟩
      · obtain rfl : i = n1 := by omega
        have HN : Hid (b = true) := Lib.hid (HBB.out.2 (rows_eq (⟨#[]⟩ : ByteArray) (HL.out.1.trans HL.out.2.symm) (fun j hj => hall.out j (by have := HL.out.1; omega))))
        go_wp2
        go_ret
        exact ⟨ret_b HN.out.symm, hd⟩
  · have g1 : ((n1 : Int) != (n2 : Int)) = true := by rw [bne_iff_ne]; omega
    have HN : Hid (b = false) := Lib.hid (bool_no HBB.out (fun e => hn (by rw [← HL.out.1, ← HL.out.2, e])))
    clear hn
    go_enter Try.func53, Try.ntmps53
    go_wp2
    go_ret
    exact ⟨ret_b HN.out.symm, Drew.refl _⟩

end Go.Proofs.Ytdbklklmpnlinaa
