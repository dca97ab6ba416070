/- (*sip.Pen).Text and Bytes at a pen that is not nil. Conditions: fewer than 2^43 bytes written, and a text of at most 2^43. -/
import Derived.Test.YtgckgagnodkhjaaRRRRDoorPenRest
import Derived.Laws.AppendOwnNone
namespace Go.Proofs.YtgckgagnodkhjaaRRRRDoor
open Go.RowKit

/-- What a call hands back that makes a row of bytes: the bytes l, in a new block; nothing that was there has turned. -/
def Gives (w w' : World) (e : Ending) (l : List UInt8) : Prop :=
  ∃ v, e = .returned v ∧ w'.ownsRow w.heap.size 5 1 v l.length (Lib.byteCells l) ∧ Below w.heap.size w w'

/-- A text behind what the pen has. -/
theorem str_step {w w1 : World} {B pb n : Nat} {l : List UInt8} {v v' : Value} {s : ByteArray}
    (h1 : w.heap[pb]? = some (.cells #[v] 38 (0, 0))) (h3 : v.ownBlock ≠ some pb) (h4 : B ≤ pb)
    (hown : w1.ownsRow B 5 1 v' n (Lib.byteCells l ++ Lib.strCells s)) (hg : w.grownBy w1 v.ownBlock) (hsep : Sep w v v') :
    w1.cell? ⟨pb, 0, none⟩ = some v ∧ w1.frozen? ⟨pb, 0, none⟩ = false ∧ (Pen (w1.setCell ⟨pb, 0, none⟩ v') B pb (l ++ s.data.toList) ∧ Wr pb w (w1.setCell ⟨pb, 0, none⟩ v')) := by
  have hlt := lt_of_block h1
  have e : w1.heap[pb]? = some (.cells #[v] 38 (0, 0)) := by
    rw [hg.block pb hlt (fun e => h3 e.symm)]; exact h1
  refine ⟨cell_of_one e, free_of_one e, ?_⟩
  have hn : n = l.length + s.data.toList.length := by have := hown.1; simp [Lib.byteCells_length, Lib.strCells_length] at this; simp; exact this.symm
  subst hn
  exact pen_step h1 h3 h4 (fun k hk => rfl) (Nat.le_refl _) rfl rfl rfl hown hg hsep

set_option maxHeartbeats 1600000 in
set_option maxRecDepth 100000 in
theorem penText_any (B pb : Nat) (s : ByteArray) (l : List UInt8) (w : World) (hs : s.size ≤ 8796093022208) (hl : l.length ≤ 8796093022208) (hpen : Pen w B pb l) (hB : B ≤ w.heap.size) :
    Calls Tryd.prog 26 #[.pointer (some ⟨pb, 0, none⟩), .string s] w fun e w' => e = .returned (.tuple #[]) ∧ DigitsDone w w' B pb (l ++ (Lib.uvarint s.size ++ s.data.toList)) := by
  obtain ⟨i0, hi, hz0, hz1, hz2⟩ := info_parts Tryd.info5
  have hul := Lib.uvarint_length64 (x := s.size) (by omega)
  go_enter Tryd.func26, Tryd.ntmps26
  go_wp2_with fail
  refine (num_one B pb s.size _ _ (by omega) (by omega) hpen hB _ rfl).mono ?_
  rintro e w1 ⟨rfl, hpen1, hwr1⟩
  have hB1 : B ≤ w1.heap.size := Nat.le_trans hB hwr1.size
  obtain ⟨v, h1, h2, h3, h4⟩ := hpen1
  have hcell := cell_of_one h1
  have hfree := free_of_one h1
  go_wp2_with (at_builtin; refine wpList_append_str_sep _ rfl _ _ 36 9 rfl B 5 i0 Tryd.underlying36 Tryd.underlying9 hi hz0 hz1 hz2 _ _ _ rfl h2 s rfl ?c3 ?c4 ?c5 ?_)
  case c3 => unfold maxLen; simp; omega
  case c4 => simp; omega
  case c5 => exact hB1
  intro v' w2 hown hgrow hsep
  have hR := str_step h1 h3 h4 hown hgrow hsep
  obtain ⟨ao, cp, rfl⟩ := own_slice hown
  have k0 := hR.1
  have k1 := hR.2.1
  have HR := Lib.hid hR.2.2
  clear hR hown hgrow hsep hcell hfree
  go_wp2
  go_end0
  refine ⟨rfl, ?_⟩
  have := HR.out
  rw [← List.append_assoc]
  exact ⟨this.1, hwr1.trans this.2⟩

set_option maxHeartbeats 1600000 in
set_option maxRecDepth 100000 in
theorem penBytes_any (B pb : Nat) (l : List UInt8) (w : World) (hl : l.length ≤ 70368744177664) (hpen : Pen w B pb l) :
    Calls Tryd.prog 16 #[.pointer (some ⟨pb, 0, none⟩)] w fun e w' => Gives w w' e l := by
  obtain ⟨i0, hi, hz0, hz1, hz2⟩ := info_parts Tryd.info5
  obtain ⟨v, h1, h2, h3, h4⟩ := hpen
  have hcell := cell_of_one h1
  have hown0 := h2
  rcases h2.2 with ⟨rfl, hn⟩ | ⟨g, cap, cur, rfl, _⟩
  · have hl0 : l = [] := List.eq_nil_of_length_eq_zero hn
    subst hl0
    clear h1 h2 h3 h4 hown0 hn
    go_enter Tryd.func16, Tryd.ntmps16
    go_wp2_with (at_builtin; refine wpList_append_own_none rfl _ _ 36 rfl w.heap.size 5 i0 1 Tryd.underlying36 hi (.slice none 0 0) 0 [] rfl (World.ownsRow_nil _ _ _ _) rfl ?_)
    go_wp2
    go_ret
    exact ⟨_, rfl, World.ownsRow_nil _ _ _ _, Below.refl _ _⟩
  · have hc := hown0.cells (g := g) rfl
    clear h1 h2 h3 h4
    go_enter Tryd.func16, Tryd.ntmps16
    go_wp2_with (at_builtin; refine wpList_append_own _ rfl _ _ 36 rfl w.heap.size 5 i0 (.int .u8 0) 1 1 Tryd.underlying36 hi hz0 hz1 hz2 rfl (by decide) (.slice none 0 0) 0 [] rfl (World.ownsRow_nil _ _ _ _) ⟨g, 0, none⟩ l.length cap (Lib.byteCells l) rfl ?c0 hc ?c2 ?c3 ?c4 ?c5 ?_)
    case c0 => simp [Lib.byteCells_length]
    case c2 => intro u hu; simp [Lib.byteCells] at hu; obtain ⟨a, _, rfl⟩ := hu; rfl
    case c3 => unfold maxLen; omega
    case c4 => omega
    case c5 => exact Nat.le_refl _
    intro v' w1 hown hgrow _
    go_wp2
    go_ret
    refine ⟨_, rfl, by simpa using hown, (Below.refl _ _).grown hgrow (Nat.le_refl _) (fun k h => by cases h)⟩
end Go.Proofs.YtgckgagnodkhjaaRRRRDoor
