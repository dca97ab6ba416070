/- sort.Search with Find's closure, and Find, at a row of texts that need not rise: a place in the row, and whether the key is there. Conditions: at most 2^38 texts, each of at most 2^47 bytes. -/
import Derived.Test.YtdbklklmpnlinaaGreatFind2
namespace Go.Proofs.YtdbklklmpnlinaaGreat
open Go.RowKit

def FoundIn (w w' : World) (e : Ending) (n : Nat) : Prop := ∃ at_, e = .returned (.int .i64 (at_ : Nat)) ∧ at_ ≤ n ∧ Drew w w'
def FindIn (w w' : World) (e : Ending) (xs : List ByteArray) (k : ByteArray) : Prop :=
  ∃ (at_ : Nat) (there : Bool), e = .returned (.tuple #[.int .i64 at_, .bool there]) ∧ at_ ≤ xs.length ∧ (there = true ↔ at_ < xs.length ∧ nth xs at_ = k) ∧ Below w.heap.size w w'

set_option maxHeartbeats 2000000 in
set_option maxRecDepth 100000 in
theorem searchFind_in (b1 b2 n : Nat) (p : Nat → Bool) (w : World) (hn : n ≤ 274877906944)
    (hf : ∀ W i, i < n → Drew w W → Calls Tryz.prog 154 #[.int .i64 i, .pointer (some ⟨b1, 0, none⟩), .pointer (some ⟨b2, 0, none⟩)] W fun e w' => e = .returned (.bool (p i)) ∧ Drew W w')
    :
    Calls Tryz.prog 146 #[.int .i64 n, .func (.func 154) #[] #[.pointer (some ⟨b1, 0, none⟩), .pointer (some ⟨b2, 0, none⟩)]] w fun e w' => FoundIn w w' e n := by
  have HF := Lib.hid hf
  clear hf
  go_enter Tryz.func146, Tryz.ntmps146
  go_wp2
  go_loopg [5, 6] n (fun kx s5 s6 wr => ∃ lo hi : Nat, s5 = .int .i64 lo ∧ s6 = .int .i64 hi ∧ lo ≤ hi ∧ hi ≤ n ∧ hi - lo ≤ kx ∧ Drew w wr)
  case atStart => exact ⟨0, n, rfl, rfl, Nat.zero_le _, Nat.le_refl _, by omega, Drew.refl w⟩
  case round =>
    obtain ⟨lo, hi, rfl, rfl, hlh, hin, hg, hd⟩ := hrel
    by_cases hlt : lo < hi
    · have hc := HF.out wr ((lo + hi) / 2) (by omega) hd
      rw [show (((lo + hi) / 2 : Nat) : Int) = ((lo : Int) + (hi : Int)) / 2 by omega] at hc
      cases hp : p ((lo + hi) / 2) with
      | false =>
        rw [hp] at hc
        have HP := Lib.hid hp
        have HC := Lib.hid hc
        clear hp hc
        go_wp2_with fail
        refine HC.out.mono ?_
        rintro e w1 ⟨rfl, hd1⟩
        go_wp2
        go_roundg (hi - ((lo + hi) / 2 + 1))
        case measure => omega
        case rel =>
          refine ⟨(lo + hi) / 2 + 1, hi, by rw [show ((lo : Int) + (hi : Int)) / 2 + 1 = (((lo + hi) / 2 + 1 : Nat) : Int) by omega], rfl, by omega, hin, Nat.le_refl _, hd.trans hd1⟩
      | true =>
        rw [hp] at hc
        have HP := Lib.hid hp
        have HC := Lib.hid hc
        clear hp hc
        go_wp2_with fail
        refine HC.out.mono ?_
        rintro e w1 ⟨rfl, hd1⟩
        go_wp2
        go_roundg ((lo + hi) / 2 - lo)
        case measure => omega
        case rel => exact ⟨lo, (lo + hi) / 2, rfl, by rw [show ((lo : Int) + (hi : Int)) / 2 = (((lo + hi) / 2 : Nat) : Int) by omega], by omega, by omega, Nat.le_refl _, hd.trans hd1⟩
    · obtain rfl : hi = lo := by omega
      go_wp2
      go_ret
      exact ⟨hi, rfl, hin, hd⟩

set_option maxHeartbeats 2000000 in
set_option maxRecDepth 100000 in
theorem find_in (v : Value) (k : ByteArray) (xs : List ByteArray) (w : World) (hr : Rd w v (xs.map Value.string)) (hk : k.size ≤ 140737488355328) (hx : ∀ x ∈ xs, x.size ≤ 140737488355328) (hn : xs.length ≤ 274877906944) :
    Calls Tryz.prog 103 #[v, .string k] w fun e w' => FindIn w w' e xs k := by
  have hB := boxes_new w v k xs 32 9 hr hk hx
  have hS := searchFind_in w.heap.size (w.heap.size + 1) xs.length (pFind xs k) ((w.alloc (.cells #[v] 32)).alloc (.cells #[.string k] 9)) hn (fun W i hi hd => by
    have := closFind_any w.heap.size (w.heap.size + 1) i v k xs W (hB.drew hd) hi
    unfold pFind
    rw [nth_eq hi]
    exact this)
  obtain ⟨ao, c, hv⟩ := hr.open
  rw [List.length_map] at hv
  subst hv
  have HB := Lib.hid hB
  have HS := Lib.hid hS
  have k1 := hB.row
  have HR := Lib.hid hB.rd
  clear hB hS hr hx
  generalize hL : xs.length = n at *
  have HLen := Lib.hid hL
  clear hL
  go_enter Tryz.func103, Tryz.ntmps103
  go_wp2_with fail
  refine HS.out.mono ?_
  rintro e w2 ⟨at_, rfl, hE, hd⟩
  have hrow := (hd.cell0 ⟨w.heap.size, 0, none⟩).trans HB.out.row
  have hkey := (hd.cell0 ⟨w.heap.size + 1, 0, none⟩).trans HB.out.key
  have hrd := HR.out.keep (hd.below0 _)
  have HE := Lib.hid hE
  have han := hE
  clear hE
  by_cases hlt : at_ < n
  · obtain ⟨g, o, rfl, hc, hi, _⟩ := hrd.text at_ hlt
    have HI := Lib.hid hi
    clear hrd hi
    have g1 : (at_ : Int) < n := by omega
    have g2 : decide (at_ < n) = true := by simpa using hlt
    by_cases he : nth xs at_ = k
    · have heq := text_eq he
      have HQ := Lib.hid he
      clear he
      go_wp2
      go_quiet (fail)
      go_wp2
      go_ret2
      exact ⟨at_, true, rfl, by rw [HLen.out]; exact HE.out, by rw [HLen.out]; exact ⟨fun _ => ⟨hlt, HQ.out⟩, fun _ => rfl⟩, (boxes_below _ _ _).trans ((hd.trans ⟨_, rfl⟩).below0 _)⟩
    · have heq := text_ne he
      have HQ := Lib.hid he
      clear he
      go_wp2
      go_quiet (fail)
      go_wp2
      go_ret2
      exact ⟨at_, false, rfl, by rw [HLen.out]; exact HE.out, by rw [HLen.out]; exact ⟨fun h => (by cases h), fun h => absurd h.2 HQ.out⟩, (boxes_below _ _ _).trans ((hd.trans ⟨_, rfl⟩).below0 _)⟩
  · have g2 : decide (at_ < n) = false := by simpa using hlt
    clear hrd
    go_wp2
    go_quiet (fail)
    go_wp2
    go_ret2
    exact ⟨at_, false, rfl, by rw [HLen.out]; exact HE.out, by rw [HLen.out]; exact ⟨fun h => (by cases h), fun h => absurd h.1 hlt⟩, (boxes_below _ _ _).trans ((hd.trans ⟨_, rfl⟩).below0 _)⟩

end Go.Proofs.YtdbklklmpnlinaaGreat
