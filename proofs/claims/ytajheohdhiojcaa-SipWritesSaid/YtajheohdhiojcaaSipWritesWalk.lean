/- bowerlaw01.SipWrites returns true, and nothing that was there has turned. Condition: the list's cells are there. -/
import Derived.Test.YtajheohdhiojcaaSipLight
import Derived.Deep.RegionWith
import Derived.Deep.DeepMust
import Derived.Deep.DeepCutAuto
namespace Go.Proofs.Ytajheohdhiojcaa
open Go.RowKit

theorem own_keepWr {w w' : World} {B pb n : Nat} {e : TypeId} {size : Nat} {v : Value} {xs : List Value} (h : w.ownsRow B e size v n xs) (hw : Wr pb w w') (hs : ∀ k, v.ownBlock = some k → k ≠ pb ∧ some k ≠ penRow w pb) : w'.ownsRow B e size v n xs := by
  refine ⟨h.1, ?_⟩
  rcases h.2 with hn | ⟨g, cap, cur, rfl, hb, hgg, r⟩
  · exact Or.inl hn
  · obtain ⟨h1, h2⟩ := hs g rfl
    exact Or.inr ⟨g, cap, cur, rfl, hb, by rw [hw.block g (lt_of_block hgg) h1 h2]; exact hgg, r⟩

/-- The pen and the row 'want' have the same bytes, in rows apart. -/
def Both (w wr : World) (B pb : Nat) (v : Value) (bs : List UInt8) (j : Nat) : Prop :=
  Pen wr B pb bs ∧ wr.ownsRow B 5 1 v bs.length (Lib.byteCells bs) ∧ (∀ k, v.ownBlock = some k → k ≠ pb ∧ some k ≠ penRow wr pb) ∧ Below B w wr ∧ bs.length ≤ 400 * j

theorem itemBytes_length (x : It) (h : x.ok) (hs : x.text.size ≤ 300) : 1 ≤ (itemBytes x.kind x.num x.int x.text).length ∧ (itemBytes x.kind x.num x.int x.text).length ≤ 400 := by
  obtain ⟨h1, h2, _⟩ := h
  have a1 := Lib.uvarint_length64 h1
  have a2 := Lib.uvarint_length64 (Lib.zigzag_lt h2.1 h2.2)
  have a3 := Lib.uvarint_length64 (x := x.num % 2) (by omega)
  have a4 := Lib.uvarint_length64 (x := x.text.size) (by omega)
  have b1 := Lib.uvarint_pos x.num
  have b2 := Lib.uvarint_pos (Lib.zigzag x.int)
  have b3 := Lib.uvarint_pos (x.num % 2)
  have b4 := Lib.uvarint_pos x.text.size
  have e : x.text.data.toList.length = x.text.size := by simp
  unfold itemBytes
  split
  · omega
  · split
    · omega
    · split
      · rw [List.length_append, e]; omega
      · omega

theorem own_keep {w w' : World} {B n : Nat} {e : TypeId} {size : Nat} {v : Value} {xs : List Value} (h : w.ownsRow B e size v n xs) (hw : Below w.heap.size w w') : w'.ownsRow B e size v n xs := by
  refine ⟨h.1, ?_⟩
  rcases h.2 with hn | ⟨g, cap, cur, rfl, hb, hgg, r⟩
  · exact Or.inl hn
  · exact Or.inr ⟨g, cap, cur, rfl, hb, by rw [hw.block g (lt_of_block hgg)]; exact hgg, r⟩

theorem both_keep {w w3 w4 : World} {B pb j : Nat} {v : Value} {bs : List UInt8} (h : Both w w3 B pb v bs j) (hw : Below w3.drew.heap.size w3.drew w4) (hB : B ≤ w3.heap.size) : Both w w4 B pb v bs j := by
  obtain ⟨hp, ho, hs, hb, hl⟩ := h
  have hk : Pen w4 B pb bs := hp.keep fun k hk => hw.block k (by rcases hk with rfl | hk; exact hp.lt; exact (hp.row k hk).2.1)
  have hr : penRow w4 pb = penRow w3 pb := by unfold penRow; rw [hw.cell (p := ⟨pb, 0, none⟩) hp.lt]; rfl
  refine ⟨hk, own_keep (w := w3.drew) ho hw, fun k hk => by rw [hr]; exact hs k hk, hb.drew.trans (hw.mono hB), hl⟩

/-- Behind a write and the append of what it handed back. -/
theorem both_step {w wr w1 w2 : World} {B pb j : Nat} {o : Obj} {v v1 v2 : Value} {bs ib : List UInt8} (hB : B ≤ wr.heap.size) (h : Both w wr B pb v bs j) (hw : WriteDone (wr.alloc o) w1 B pb (.returned v1) bs ib) (hl : ib.length ≤ 400)
    (hown : w2.ownsRow B 5 1 v2 (bs.length + ib.length) (Lib.byteCells bs ++ Lib.byteCells ib)) (hg : w1.grownBy w2 v.ownBlock) (hs : Sep w1 v v2) : Both w w2 B pb v2 (bs ++ ib) (j + 1) := by
  obtain ⟨hp, ho, hsp, hb, hle⟩ := h
  obtain ⟨_, _, _, hp1, hwr, _⟩ := hw
  have hlt := hp.lt
  have hrow : penRow (wr.alloc o) pb = penRow wr pb := penRow_alloc hlt o
  have hvlt : ∀ k, v.ownBlock = some k → B ≤ k ∧ k < wr.heap.size := fun k hk => ho.lt k hk
  -- the old row of 'want' is none of the pen's behind the write
  have hv1 : ∀ k, v.ownBlock = some k → k ≠ pb ∧ some k ≠ penRow w1 pb := by
    intro k hk
    obtain ⟨h1, h2⟩ := hsp k hk
    refine ⟨h1, ?_⟩
    rcases hwr.row with e | ⟨g, e, hge⟩
    · rw [e, hrow]; exact h2
    · rw [e]; intro e2; injection e2 with e2
      have := (hvlt k hk).2
      simp at hge
      omega
  have hp2 : Pen w2 B pb (bs ++ ib) := hp1.keep fun k hk => hg.block k (by rcases hk with rfl | hk; exact hp1.lt; exact (hp1.row k hk).2.1) (fun e => by
    obtain ⟨a1, a2⟩ := hv1 k e.symm
    rcases hk with rfl | hk
    · exact a1 rfl
    · exact a2 hk.symm)
  have hr2 : penRow w2 pb = penRow w1 pb := by
    unfold penRow
    rw [World.cell?_of_block (w := w1) (a := ⟨pb, 0, none⟩) (hg.block pb hp1.lt (fun e => (hv1 pb e.symm).1 rfl))]
  refine ⟨hp2, by rw [List.length_append, Lib.byteCells_append]; exact hown, ?_, ?_, ?_⟩
  · intro k hk
    rcases hs with e | ⟨g, e, hge⟩
    · rw [hr2]; exact hv1 k (by rw [← e]; exact hk)
    · rw [hk] at e; injection e with e
      have h1 := hp1.lt
      refine ⟨by omega, ?_⟩
      rw [hr2]; intro e2
      have := (hp1.row k e2.symm).2.1
      omega
  · have b1 : Below B w w1 := (hb.alloc hB o).trans (hwr.below (hp.alloc o) (by simp; omega))
    exact b1.grown hg (by have := hwr.size; simp at this; omega) (fun k hk => (hvlt k hk).1)
  · rw [List.length_append]; omega

set_option maxHeartbeats 3200000 in
set_option maxRecDepth 100000 in
theorem sipWrites_any (ao : Option Addr) (len cap : Nat) (X : Nat → It) (w : World) (hx : Items w w.heap.size ao len X) (hok : ∀ i, i < len → (X i).ok) (hlen : len ≤ 9223372036854775807) :
    Calls Try.prog 3 #[.slice ao len cap] w fun e w' => e = .returned (.bool true) ∧ Below w.heap.size w w' := by
  have HX := Lib.hid hx
  have HK := Lib.hid hok
  have hli := light_any ao len cap X w hx hok hlen
  have HL := Lib.hid hli
  clear hx hok hli
  go_enter Try.func3, Try.ntmps3
  go_wp2_with fail
  refine HL.out.mono ?_
  rintro e w1 ⟨b, rfl, hb, hbel⟩
  cases b with
  | false =>
    clear hb
    go_wp2_with fail
    refine (lives01 _).mono ?_
    rintro e w2 ⟨rfl, hb2⟩
    go_wp2
    go_ret
    exact ⟨rfl, hbel.trans (hb2.mono hbel.size)⟩
  | true =>
    obtain ⟨hsz, h40⟩ := hb rfl
    have HS := Lib.hid hsz
    clear hsz hb
    have hp0 := pen_new w1
    obtain ⟨pb, hpb⟩ : ∃ pb, pb = w1.heap.size := ⟨_, rfl⟩
    have hst : Both w (w1.alloc (.cells #[.slice none 0 0] 27)) w.heap.size w1.heap.size (.slice none 0 0) [] 0 := by
      obtain ⟨v, h1, h2, h3, h4⟩ := hp0
      exact ⟨⟨v, h1, own_mono h2 hbel.size, h3, hbel.size⟩, World.ownsRow_nil _ _ _ _, fun k hk => by simp [Value.ownBlock] at hk, hbel.alloc hbel.size _, by simp⟩
    have HST := Lib.hid hst
    have hbs := hbel.size
    clear hst hp0
    go_wp2_with fail
    rw [← hpb] at HST ⊢
    have HPB := Lib.hid hpb
    clear hpb
    go_loopw [4, 13] (fun vw vj wr => ∃ (j : Nat) (bs : List UInt8), vj = .int .i64 j ∧ j ≤ len ∧ Both w wr w.heap.size pb vw bs j) (fun _ vj _ => len - (intOf vj).toNat)
    case atStart => exact ⟨0, [], rfl, Nat.zero_le _, HST.out⟩
    case round =>
      obtain ⟨j, bs, rfl, hj, hpen, hown, hsep, hbel2, hbl⟩ := hrel
      by_cases hlt : j < len
      · obtain ⟨bk, off, rfl, hbN, hc⟩ := (HX.out.keep hbel2) j hlt
        have hk := HK.out j hlt
        have hs := HS.out j hlt
        have hil := itemBytes_length _ hk hs
        generalize hxj : X j = x at *
        clear hxj
        obtain ⟨kind, num, int, text, most⟩ := x
        have c0 := hc 0 _ rfl
        have c1 := hc 1 _ rfl
        have c2 := hc 2 _ rfl
        have c3 := hc 3 _ rfl
        have c4 := hc 4 _ rfl
        obtain ⟨k1, ⟨k2, k3⟩, k4⟩ := hk
        clear hc
        rw [Nat.add_zero] at c0
        simp only at hs hil k1 k2 k3 k4
        have HB := Lib.hid (show Both w wr w.heap.size pb u4 bs j from ⟨hpen, hown, hsep, hbel2, hbl⟩)
        have hbsz := hbel2.size
        go_wp2_with fail
        refine (write_any w.heap.size pb kind int most num text bs _ k1 k2 k3 (by omega) (by omega) (hpen.alloc _) (by simp; omega)).mono ?_
        rintro e w2 hwd
        have HW := Lib.hid hwd
        obtain ⟨v1, rfl, hown1, hpen1, hwr, _⟩ := hwd
        generalize itemBytes kind num int text = ib at *
        have hown0 := own_keepWr (hown.alloc _) hwr (fun k hk => by
          obtain ⟨a1, a2⟩ := hsep k hk
          exact ⟨a1, by rw [penRow_alloc hpen.lt]; exact a2⟩)
        obtain ⟨g, c1', rfl⟩ : ∃ g c, v1 = .slice (some ⟨g, 0, none⟩) ib.length c := by
          rcases hown1.2 with ⟨_, h⟩ | ⟨g, c, _, h, _⟩
          · omega
          · exact ⟨g, c, h⟩
        have hcells := hown1.cells (g := g) rfl
        have hsz2 := hwr.size
        simp only [World.size_alloc] at hsz2
        obtain ⟨i0, hi, hz0, hz1, hz2⟩ := info_parts Try.info5
        clear c0 c1 c2 c3 c4 hown1 hpen1 hwr hpen hown hsep hbel2
        go_wp2_with (at_builtin; refine wpList_append_sep _ rfl _ _ 25 rfl w.heap.size 5 i0 (.int .u8 0) 1 1 Try.underlying25 hi hz0 hz1 hz2 rfl (by decide) _ _ _ rfl hown0 ⟨g, 0, none⟩ ib.length c1' (Lib.byteCells ib) rfl ?d1 hcells ?d2 ?d3 ?d4 ?d5 ?_)
        case d1 => rw [Lib.byteCells_length]; omega
        case d2 => intro u hu; simp [Lib.byteCells] at hu; obtain ⟨a, _, rfl⟩ := hu; rfl
        case d3 => unfold maxLen; omega
        case d4 => omega
        case d5 => omega
        intro v2 w3 hown3 hgrow3 hsep3
        have hB3 := both_step (by omega) HB.out HW.out hil.2 hown3 hgrow3 hsep3
        clear hown3 hgrow3 hsep3 hown0 hcells hsz2 hi hz0 hz1 hz2
        generalize bs ++ ib = b2 at *
        obtain ⟨hp3, ho3, hs3, hbel3, hl3⟩ := hB3
        have HB3 := Lib.hid (show Both w w3 w.heap.size pb v2 b2 (j + 1) from ⟨hp3, ho3, hs3, hbel3, hl3⟩)
        obtain ⟨a2, c2, rfl⟩ := own_slice ho3
        have hcv := conv_own (w := w3.drew) (B := w.heap.size) (v := .slice a2 b2.length c2) ho3
        have hl3' : b2.length ≤ 70368744177664 := by omega
        have hcv3 : ∀ w', Below w3.drew.heap.size w3.drew w' → (convert 25 9 (.slice a2 b2.length c2)).run Try.prog w' = .ok (.string ⟨b2.toArray⟩) w' := fun w' h => conv_own (own_keep (w := w3.drew) ho3 h)
        have HC := Lib.hid hcv3
        have HO := Lib.hid ho3
        have hbz := hbel3.size
        clear hcv3 ho3 hbel3
        go_wp2_with fail
        go_region_with (first | (go_at_call 18; refine (penLen_any w.heap.size pb b2 _ (by exact hp3)).mono ?_; rintro e w4 ⟨rfl, rfl⟩) | (go_at_call 19; refine (penBytes_any w.heap.size pb b2 _ hl3' (by exact hp3)).mono ?_; rintro e w4 ⟨v4, rfl, hown4, hbel4⟩; have hcv4 := conv_own hown4; have hcv5 := HC.out _ hbel4; obtain ⟨a4, c4, rfl⟩ := own_slice hown4))
        all_goals
          have HF := Lib.hid (both_keep HB3.out hbel4 hbz)
          clear hbel4
          go_wp2
          go_roundw
        all_goals first
          | exact ⟨j + 1, b2, by go_num, by omega, HF.out⟩
          | (simp [intOf]; omega)
      · have hjl : j = len := by omega
        subst hjl
        go_wp2_with fail
        refine (lives01 _).mono ?_
        rintro e w5 ⟨rfl, hb5⟩
        go_wp2
        go_ret
        exact ⟨rfl, hbel2.trans (hb5.mono hbel2.size)⟩
end Go.Proofs.Ytajheohdhiojcaa
