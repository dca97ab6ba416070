/- bowerlaw26.Light: whether there are few accesses, and small blocks. Condition: rows of keys that read. -/
import Derived.Test.YtkdjcikilabehaaMemLives
import Derived.Test.YtkdjcikilabehaaNodeKids
namespace Go.Proofs.Ytkdjcikilabehaa
open Go.RowKit

/-- A row of accesses that came in. -/
structure AcRow (w : World) (ao : Option Addr) (n c : Nat) (L : List AcV) : Prop where
  len : L.length = n
  nc : n ≤ c ∧ c ≤ 9223372036854775807
  at_ : 0 < n → ∃ g q, ao = some ⟨g, q, none⟩ ∧ ∀ j (h : j < L.length), w.rangeAt g (q + j * 26) L[j].cells
  ks : ∀ x ∈ L, (∃ ks : List ByteArray, Rd w (.slice x.b.p1 x.b.n1 x.b.c1) (ks.map Value.string)) ∧ x.b.n2 ≤ 9223372036854775807 ∧ x.b.n3 ≤ 9223372036854775807 ∧ x.b.n4 ≤ 9223372036854775807 ∧ x.b.n7 ≤ 9223372036854775807
theorem range_below {w w' : World} {g q : Nat} {cs : List Value} (h : w.rangeAt g q cs) (hb : Below w.heap.size w w') : w'.rangeAt g q cs := fun i v hi => by
  have h1 := h i v hi
  exact (hb.cell (p := ⟨g, q + i, none⟩) (World.block_lt_of_cell? w _ h1)).trans h1
theorem AcRow.below {w w' : World} {ao : Option Addr} {n c : Nat} {L : List AcV} (h : AcRow w ao n c L) (hb : Below w.heap.size w w') : AcRow w' ao n c L :=
  ⟨h.len, h.nc, fun h0 => by
    obtain ⟨g, q, e, hr⟩ := h.at_ h0
    exact ⟨g, q, e, fun j hj => range_below (hr j hj) hb⟩, fun x hx => by
    obtain ⟨⟨ks, h1⟩, h2⟩ := h.ks x hx
    exact ⟨⟨ks, h1.keep hb⟩, h2⟩⟩
/-- What is small of an access. -/
def SmallP (x : AcV) : Prop := x.b.n5 ≤ 60 ∧ x.b.n6 ≤ 60 ∧ wrap64 ((x.b.n7 : Int) + x.b.n4) ≤ 60 ∧ x.b.n2 ≤ 80 ∧ x.b.n3 ≤ 80 ∧ x.b.n1 ≤ 80
theorem szNode : (Try.prog.info? 33).map (·.size) = some 8 := by kernel_rfl
set_option maxHeartbeats 2000000 in
set_option maxRecDepth 100000 in
theorem light26 (ao : Option Addr) (n c : Nat) (L : List AcV) (w : World) (h : AcRow w ao n c L) :
    Calls Try.prog 7 #[.slice ao n c] w fun e w' => ∃ b : Bool, e = .returned (.bool b) ∧ Below w.heap.size w w' ∧ (b = true → n ≤ 60 ∧ ∀ x ∈ L, SmallP x) := by
  have HR := Lib.hid h
  have hnc := h.nc
  clear h
  go_enter Try.func7, Try.ntmps7
  go_wp2
  go_loopw [7] (fun vi wr => ∃ j : Nat, vi = .int .i64 j ∧ j ≤ n ∧ Hid (Below w.heap.size w wr ∧ ∀ i (hi : i < L.length), i < j → SmallP L[i])) (fun vi _ => n - (intOf vi).toNat)
  case atStart => exact ⟨0, rfl, Nat.zero_le _, Lib.hid ⟨Below.refl _ _, fun i hi h0 => absurd h0 (Nat.not_lt_zero _)⟩⟩
  case round =>
    obtain ⟨j, rfl, hj, hB⟩ := hrel
    by_cases hlt : j < n
    · have hjL : j < L.length := by rw [HR.out.len]; exact hlt
      obtain ⟨g, q, rfl, hrr⟩ := (HR.out.below hB.out.1).at_ (by omega)
      have HRG := Lib.hid (hrr j hjL)
      have HKS := Lib.hid ((HR.out.below hB.out.1).ks L[j] (List.getElem_mem hjL))
      have HSM := Lib.hid (show ∀ x, x = L[j] → SmallP x → ∀ i (hi : i < L.length), i < j + 1 → SmallP L[i] from fun x e hs i hi hlt2 => by
        by_cases e2 : i = j
        · subst e2; rw [← e]; exact hs
        · exact hB.out.2 i hi (by omega))
      obtain ⟨x, hx⟩ : ∃ x, x = L[j] := ⟨_, rfl⟩
      rw [← hx] at HRG HKS
      have HX := Lib.hid hx
      have hlt' : (j : Int) < n := by omega
      clear hrr hx
      go_upto_region 4 with (first
        | (refine wpList_load_mid rfl 48 _ rfl g (q + j * 26) rfl x.cells _ HRG.out Try.underlying48 rfl szAccess ?_)
        | (refine wpList_store_blk rfl 48 _ _ rfl wr.heap.size 48 #[.int .i64 0, .int .i64 0, .int .u64 0, .int .u64 0, .int .i64 0, .int .i64 0, .string ⟨#[]⟩, .string ⟨#[]⟩, .bool false, .int .i64 0, .slice none 0 0, .slice none 0 0, .slice none 0 0, .int .i64 0, .int .i64 0, .string ⟨#[]⟩, .int .u64 0, .slice none 0 0, .slice none 0 0, .slice none 0 0, .slice none 0 0, .int .i64 0, .string ⟨#[]⟩, .string ⟨#[]⟩, .int .u64 0, .int .i64 0] [.int .i64 x.k, .int .i64 x.at_, .int .u64 x.ver, .int .u64 x.word, .int .i64 x.b.k, .int .i64 x.b.lv, .string x.b.lo, .string x.b.hi, .bool x.b.la, .int .i64 x.b.nx, .slice x.b.p1 x.b.n1 x.b.c1, .slice x.b.p2 x.b.n2 x.b.c2, .slice x.b.p3 x.b.n3 x.b.c3, .int .i64 x.b.th, .int .i64 x.b.ac, .string x.b.ak, .int .u64 x.b.av, .slice x.b.p4 x.b.n4 x.b.c4, .slice x.b.p5 x.b.n5 x.b.c5, .slice x.b.p6 x.b.n6 x.b.c6, .slice x.b.p7 x.b.n7 x.b.c7, .int .i64 x.o.k, .string x.o.key, .string x.o.to, .int .u64 x.o.v, .int .i64 x.o.lim] rfl rfl (Blk.new wr 48 _) rfl szAccess (by simp [Value.oneCell']) ?_; intro W hW1 hW2))
      obtain ⟨fz, d0, d1, d2, d3, d4, d5, d6, d7, d8, d9, d10, d11, d12, d13, d14, d15, d16, d17, d18, d19, d20, d21, d22, d23, d24, d25⟩ := cells26 hW1.out
      have hbW : Below wr.heap.size wr W := (one_alloc wr (.cells #[.int .i64 0, .int .i64 0, .int .u64 0, .int .u64 0, .int .i64 0, .int .i64 0, .string ⟨#[]⟩, .string ⟨#[]⟩, .bool false, .int .i64 0, .slice none 0 0, .slice none 0 0, .slice none 0 0, .int .i64 0, .int .i64 0, .string ⟨#[]⟩, .int .u64 0, .slice none 0 0, .slice none 0 0, .slice none 0 0, .slice none 0 0, .int .i64 0, .string ⟨#[]⟩, .string ⟨#[]⟩, .int .u64 0, .int .i64 0] 48)).2.trans (keep_to hW2.out (Nat.le_refl _) (one_alloc wr (.cells #[.int .i64 0, .int .i64 0, .int .u64 0, .int .u64 0, .int .i64 0, .int .i64 0, .string ⟨#[]⟩, .string ⟨#[]⟩, .bool false, .int .i64 0, .slice none 0 0, .slice none 0 0, .slice none 0 0, .int .i64 0, .int .i64 0, .string ⟨#[]⟩, .int .u64 0, .slice none 0 0, .slice none 0 0, .slice none 0 0, .slice none 0 0, .int .i64 0, .string ⟨#[]⟩, .string ⟨#[]⟩, .int .u64 0, .int .i64 0] 48)).2.size)
      have HBW := Lib.hid (hB.out.1.trans (hbW.mono hB.out.1.size))
      obtain ⟨⟨ks, hks⟩, hk2⟩ := HKS.out
      have HLG := Lib.hid (nlight_any x.b.lv x.b.nx x.b.lo x.b.hi x.b.la x.b.p1 x.b.p2 x.b.p3 x.b.n1 x.b.c1 x.b.n2 x.b.c2 x.b.n3 x.b.c3 ks W (hks.keep hbW) hk2.1 hk2.2.1)
      obtain ⟨q2, q3, q4, q5⟩ := hk2
      clear hW1 hW2 hbW hks fz d0 d1 d2 d3 d4 d13 d14 d15 d16 d21 d22 d23 d24 d25 q2 q3
      go_wp2_with fail
      refine HLG.out.mono ?_
      rintro e w2 ⟨r, rfl, hr, hb2⟩
      have HB2 := Lib.hid (HBW.out.trans (hb2.mono HBW.out.size))
      have e17 : w2.cell? ⟨wr.heap.size, 17, none⟩ = some (.slice x.b.p4 x.b.n4 x.b.c4) := (hb2.cell (p := ⟨wr.heap.size, 17, none⟩) (World.block_lt_of_cell? W _ d17)).trans d17
      have e18 : w2.cell? ⟨wr.heap.size, 18, none⟩ = some (.slice x.b.p5 x.b.n5 x.b.c5) := (hb2.cell (p := ⟨wr.heap.size, 18, none⟩) (World.block_lt_of_cell? W _ d18)).trans d18
      have e19 : w2.cell? ⟨wr.heap.size, 19, none⟩ = some (.slice x.b.p6 x.b.n6 x.b.c6) := (hb2.cell (p := ⟨wr.heap.size, 19, none⟩) (World.block_lt_of_cell? W _ d19)).trans d19
      have e20 : w2.cell? ⟨wr.heap.size, 20, none⟩ = some (.slice x.b.p7 x.b.n7 x.b.c7) := (hb2.cell (p := ⟨wr.heap.size, 20, none⟩) (World.block_lt_of_cell? W _ d20)).trans d20
      have HRR := Lib.hid hr
      clear hb2 hr HLG HBW d5 d6 d7 d8 d9 d10 d11 d12 d17 d18 d19 d20 HRG HKS
      obtain ⟨k4, hk4⟩ : ∃ k, k = x.b.n4 := ⟨_, rfl⟩
      obtain ⟨k5, hk5⟩ : ∃ k, k = x.b.n5 := ⟨_, rfl⟩
      obtain ⟨k6, hk6⟩ : ∃ k, k = x.b.n6 := ⟨_, rfl⟩
      obtain ⟨k7, hk7⟩ : ∃ k, k = x.b.n7 := ⟨_, rfl⟩
      rw [← hk4] at e17 q4
      rw [← hk5] at e18
      rw [← hk6] at e19
      rw [← hk7] at e20 q5
      have HKK := Lib.hid (show k4 = x.b.n4 ∧ k5 = x.b.n5 ∧ k6 = x.b.n6 ∧ k7 = x.b.n7 from ⟨hk4, hk5, hk6, hk7⟩)
      clear hk4 hk5 hk6 hk7
      cases r with
      | false =>
        clear e17 e18 e19 e20
        go_wp2
        go_ret
        exact ⟨false, rfl, HB2.out, fun h => by cases h⟩
      | true =>
        by_cases h5 : 60 < k5
        · have h5' : (60 : Int) < k5 := by omega
          go_wp2
          go_ret
          exact ⟨false, rfl, HB2.out, fun h => by cases h⟩
        · have h5' : ¬ (60 : Int) < k5 := by omega
          by_cases h6 : 60 < k6
          · have h6' : (60 : Int) < k6 := by omega
            go_wp2
            go_ret
            exact ⟨false, rfl, HB2.out, fun h => by cases h⟩
          · have h6' : ¬ (60 : Int) < k6 := by omega
            by_cases h7 : (60 : Int) < wrap64 ((k7 : Int) + k4)
            · go_wp2
              go_ret
              exact ⟨false, rfl, HB2.out, fun h => by cases h⟩
            · have HSX := Lib.hid (show SmallP x from by
                have hl := HRR.out.1 rfl
                have hn := hl.n
                have hk := HKK.out
                refine ⟨by omega, by omega, ?_, by omega, by omega, by omega⟩
                rw [← hk.1, ← hk.2.2.2]
                exact Int.not_lt.1 h7)
              have HN := Lib.hid (HSM.out x HX.out HSX.out)
              go_wp2
              go_roundw
              case rel => exact ⟨j + 1, by go_num, by omega, Lib.hid ⟨HB2.out, HN.out⟩⟩
              case measure => simp [intOf]; omega
    · obtain rfl : j = n := by omega
      have HAL := Lib.hid (show ∀ x ∈ L, SmallP x from fun x hx => by
        obtain ⟨i, hi, rfl⟩ := List.getElem_of_mem hx
        exact hB.out.2 i hi (by rw [← HR.out.len]; exact hi))
      go_wp2
      go_ret
      exact ⟨_, rfl, hB.out.1, fun h => ⟨by have := of_decide_eq_true h; omega, HAL.out⟩⟩
end Go.Proofs.Ytkdjcikilabehaa
