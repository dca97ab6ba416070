/- bowerref16.Bytes: the document's bytes of an operation. Condition: short texts. -/
import Derived.Test.YtmkglaghnjnooaaDoorOpLives
import Derived.Test.YtmkglaghnjnooaaDoorSipRef
namespace Go.Proofs.YtmkglaghnjnooaaDoor
open Go.RowKit

/-- What a letter stands for. -/
def pieceB (key tx : ByteArray) (v : Nat) (lim : Int) (c : UInt8) : List UInt8 :=
  if c = 107 then txtL key else if c = 116 then txtL tx else if c = 118 then Lib.uvarint v else if c = 108 then Lib.uvarint lim.toNat else []
theorem pieces_all (k : Int) (key tx : ByteArray) (v : Nat) (lim : Int) (hk : 1 ≤ k ∧ k ≤ 10) : Lib.uvarint k.toNat ++ (usS k).data.toList.flatMap (pieceB key tx v lim) = opBytesU (usK k) (usT k) (usV k) k key tx v lim := by
  unfold opBytesU
  congr 1
  rcases kinds k with rfl | rfl | rfl | rfl | rfl | rfl | rfl | rfl | rfl | rfl | h
  case inr.inr.inr.inr.inr.inr.inr.inr.inr.inr => omega
  all_goals simp [usS, usK, usT, usV, pieceB]

theorem own_keepO {w w' : World} {B n : Nat} {e : TypeId} {size : Nat} {v : Value} {xs : List Value} (h : w.ownsRow B e size v n xs) (hw : Below w.heap.size w w') : w'.ownsRow B e size v n xs := by
  refine ⟨h.1, ?_⟩
  rcases h.2 with hn | ⟨g, cap, cur, rfl, hb, hgg, r⟩
  · exact Or.inl hn
  · exact Or.inr ⟨g, cap, cur, rfl, hb, by rw [hw.block g (lt_of_block hgg)]; exact hgg, r⟩

theorem ownMonoO {w : World} {B D n : Nat} {e : TypeId} {size : Nat} {v : Value} {xs : List Value} (h : w.ownsRow B e size v n xs) (hd : D ≤ B) : w.ownsRow D e size v n xs := by
  refine ⟨h.1, ?_⟩
  rcases h.2 with hn | ⟨g, cap, cur, rfl, hb, r⟩
  · exact Or.inl hn
  · exact Or.inr ⟨g, cap, cur, rfl, by omega, r⟩
theorem gives_row {w w' : World} {e : Ending} {l : List UInt8} (h : Gives w w' e l) (hl : 0 < l.length) : ∃ (g c : Nat), e = .returned (.slice (some ⟨g, 0, none⟩) l.length c) ∧ (∀ j u, (Lib.byteCells l)[j]? = some u → w'.cell? ((⟨g, 0, none⟩ : Addr).add j) = some u) ∧ Below w.heap.size w w' := by
  obtain ⟨v, rfl, hown, hb⟩ := h
  rcases hown.2 with ⟨_, h⟩ | ⟨g, c, _, rfl, _⟩
  · omega
  · exact ⟨g, c, rfl, hown.cells (g := g) rfl, hb⟩

/-- While the document's bytes are put together. -/
structure BAt (W1 wr : World) (v : Value) (bs : List UInt8) : Prop where
  own : wr.ownsRow W1.heap.size 5 1 v bs.length (Lib.byteCells bs)
  below : Below W1.heap.size W1 wr

set_option maxHeartbeats 8000000 in
set_option maxRecDepth 100000 in
theorem rbytes_any (k : Int) (key tx : ByteArray) (v : Nat) (lim : Int) (w : World) (h2 : key.size ≤ 200) (h1 : tx.size ≤ 200) (hv : v < 18446744073709551616) :
    Calls Tryd.prog 17 #[.agg #[.int .i64 k, .string key, .string tx, .int .u64 (v : Nat), .int .i64 lim]] w fun e w' => Gives w w' e (opBytes k key tx v lim) := by
  have HC := Lib.hid (fun W => rsound_any k key tx v lim W (by omega) (by omega))
  have HSTR := Lib.hid (fun W => uses_str k W)
  have HPA := Lib.hid (opSound_parts (k := k) (key := key) (tx := tx) (lim := lim))
  obtain ⟨R, hR⟩ : ∃ R, R = opBytes k key tx v lim := ⟨_, rfl⟩
  rw [← hR]
  unfold opBytes at hR
  have HR := Lib.hid hR
  clear hR
  generalize opSoundB k key tx lim = sd at *
  have n0 := BX.new w 24 #[.int .i64 k, .string key, .string tx, .int .u64 (v : Nat), .int .i64 lim]
  have hx := boxed_below w (.cells #[.int .i64 k, .string key, .string tx, .int .u64 (v : Nat), .int .i64 lim] 24)
  obtain ⟨W1, hW1⟩ : ∃ W, W = w.alloc (.cells #[.int .i64 k, .string key, .string tx, .int .u64 (v : Nat), .int .i64 lim] 24) := ⟨_, rfl⟩
  rw [← hW1] at n0 hx
  have HN := Lib.hid n0
  have HX := Lib.hid hx
  have HW := Lib.hid hW1
  have c0 : W1.cell? ⟨w.heap.size, 0, none⟩ = some (.int .i64 k) := n0.cell 0 rfl
  have c1 : W1.cell? ⟨w.heap.size, 1, none⟩ = some (.string key) := n0.cell 1 rfl
  have c2 : W1.cell? ⟨w.heap.size, 2, none⟩ = some (.string tx) := n0.cell 2 rfl
  have c3 : W1.cell? ⟨w.heap.size, 3, none⟩ = some (.int .u64 (v : Nat)) := n0.cell 3 rfl
  have c4 : W1.cell? ⟨w.heap.size, 4, none⟩ = some (.int .i64 lim) := n0.cell 4 rfl
  clear n0 hx hW1
  go_enter Tryd.func17, Tryd.ntmps17
  go_upto_region 1 with fail
  rw [← HW.out]
  clear HW
  go_wp2_with fail
  refine (HC.out _).mono ?_
  rintro e w2 ⟨rfl, hb2⟩
  have HB2 := Lib.hid hb2
  clear c0 c1 c2 c3 c4 HC hb2
  cases sd with
  | false =>
    have hR0 : R = Lib.uvarint 0 := by rw [HR.out]; rfl
    go_wp2_with fail
    refine (refNum_any 0 w2 (by omega)).mono ?_
    rintro e w3 hg
    obtain ⟨v3, rfl, hown, hb3⟩ := hg
    obtain ⟨a3, c3, rfl⟩ := own_slice hown
    go_wp2
    go_ret
    rw [hR0]
    have hsz : w.heap.size ≤ w2.heap.size := Nat.le_trans HX.out.size HB2.out.size
    exact ⟨_, rfl, ownMonoO hown hsz, (HX.out.trans (HB2.out.mono HX.out.size)).trans (hb3.mono hsz)⟩
  | true =>
  obtain ⟨⟨hk1, hk2⟩, hky, htx⟩ := HPA.out rfl
  have HN2 := Lib.hid (HN.out.below HB2.out)
  obtain ⟨n, rfl⟩ : ∃ n : Nat, k = n := ⟨k.toNat, by omega⟩
  have hR0 : R = Lib.uvarint n ++ (usS n).data.toList.flatMap (pieceB key tx v lim) := by
    rw [HR.out, if_pos rfl, ← pieces_all (n : Int) key tx v lim ⟨hk1, hk2⟩]
    rfl
  have htl : hasB (usS n) 108 = true → 0 ≤ lim ∧ lim ≤ 4096 := fun h => (htx (by rw [← (usS_parts (n : Int)).2.2.2.2]; exact h)).2
  have hsz3 := usS_size (n : Int)
  have hun := Lib.uvarint_length64 (x := n) (by omega)
  have hvn := Lib.uvarint_length64 hv
  have huk := Lib.uvarint_length64 (x := key.size) (by omega)
  have hut := Lib.uvarint_length64 (x := tx.size) (by omega)
  have hpl : ∀ c, (c = 108 → 0 ≤ lim ∧ lim ≤ 4096) → (pieceB key tx v lim c).length ≤ 300 := fun c hcl => by
    unfold pieceB txtL
    split
    · rw [List.length_append, size_list]; omega
    · split
      · rw [List.length_append, size_list]; omega
      · split
        · omega
        · split
          · rename_i h8
            have hl := hcl h8
            have := Lib.uvarint_length64 (x := lim.toNat) (by omega)
            omega
          · simp
  have HPL := Lib.hid hpl
  have HTL := Lib.hid htl
  have HR0 := Lib.hid hR0
  clear hky htx HPA HR hR0 htl hpl
  generalize usS (n : Int) = s at *
  have c0 : w2.cell? ⟨w.heap.size, 0, none⟩ = some (.int .i64 (n : Nat)) := HN2.out.cell 0 rfl
  go_wp2_with fail
  refine (refNum_any n w2 (by omega)).mono ?_
  rintro e w3 hg
  obtain ⟨v3, rfl, hown, hb3⟩ := hg
  have HN3 := Lib.hid (HN2.out.below hb3)
  have HA3 : Hid (BAt W1 w3 v3 (Lib.uvarint n)) := Lib.hid ⟨ownMonoO hown HB2.out.size, HB2.out.trans (hb3.mono HB2.out.size)⟩
  obtain ⟨a3, c3, rfl⟩ := own_slice hown
  clear hown hb3 c0
  have c0 : w3.cell? ⟨w.heap.size, 0, none⟩ = some (.int .i64 (n : Nat)) := HN3.out.cell 0 rfl
  go_wp2_with fail
  refine (HSTR.out _).mono ?_
  rintro e w4 ⟨rfl, h4⟩
  rw [← h4]
  clear h4 c0 HN3
  go_wp2
  go_loopw [3, 5] (fun vb vi wr => ∃ (bs : List UInt8) (j : Nat), vi = .int .i64 j ∧ j ≤ s.size ∧ Hid (bs = Lib.uvarint n ++ (s.data.toList.take j).flatMap (pieceB key tx v lim) ∧ BAt W1 wr vb bs ∧ bs.length ≤ 10 + 300 * j)) (fun _ vi _ => s.size - (intOf vi).toNat)
  case atStart => exact ⟨Lib.uvarint n, 0, rfl, Nat.zero_le _, Lib.hid ⟨by simp, HA3.out, by omega⟩⟩
  case round =>
    obtain ⟨bs, j, rfl, hj, hst⟩ := hrel
    by_cases hlt : j < s.size
    · have hji : (j : Int) < s.size := by omega
      have HS := hst
      clear hst
      have HNW := Lib.hid (HN.out.below HS.out.2.1.below)
      have htk : (s.data.toList.take (j + 1)).flatMap (pieceB key tx v lim) = (s.data.toList.take j).flatMap (pieceB key tx v lim) ++ pieceB key tx v lim s[j] := by
        rw [List.take_add_one, List.flatMap_append, List.getElem?_eq_getElem (by simpa using hlt)]
        simp
        rfl
      have HTK := Lib.hid htk
      have HHB := Lib.hid (fun (h : s[j] = 108) => HTL.out (hasB_yes hlt h))
      have HPJ := Lib.hid (HPL.out s[j] HHB.out)
      have hbl := HS.out.2.2
      have hbz := HS.out.2.1.below.size
      obtain ⟨av, cv, rfl⟩ := own_slice HS.out.2.1.own
      clear htk
      obtain ⟨c, hc⟩ : ∃ c, c = s[j] := ⟨_, rfl⟩
      have hcn : (s[j].toNat : Int) = (c.toNat : Int) := by rw [hc]
      rw [← hc] at HTK HPJ HHB
      have HCS := Lib.hid hc
      clear hc
      have d0 : wr.cell? ⟨w.heap.size, 0, none⟩ = some (.int .i64 (n : Nat)) := HNW.out.cell 0 rfl
      have d1 : wr.cell? ⟨w.heap.size, 1, none⟩ = some (.string key) := HNW.out.cell 1 rfl
      have d2 : wr.cell? ⟨w.heap.size, 2, none⟩ = some (.string tx) := HNW.out.cell 2 rfl
      have d3 : wr.cell? ⟨w.heap.size, 3, none⟩ = some (.int .u64 (v : Nat)) := HNW.out.cell 3 rfl
      have d4 : wr.cell? ⟨w.heap.size, 4, none⟩ = some (.int .i64 lim) := HNW.out.cell 4 rfl
      by_cases h107 : c = 107
      · have hcc := h107
        have e107 : ((s[j].toNat : Int) == 107) = true := by rw [hcn, hcc]; rfl
        clear h107
        go_wp2_with fail
        refine (refText_any key _ (by omega)).mono ?_
        rintro e w5 hg
        obtain ⟨g, c5, rfl, hcells, hb5⟩ := gives_row (l := txtL key) hg (by simp only [txtL, List.length_append]; have := Lib.uvarint_pos key.size; omega)
        have hown0 := own_keepO HS.out.2.1.own hb5
        have hz5 := hb5.size
        have HB5 : Hid (Below W1.heap.size W1 w5) := Lib.hid (HS.out.2.1.below.trans (hb5.mono hbz))
        have HPE : Hid (pieceB key tx v lim c = txtL key) := Lib.hid (by rw [hcc]; rfl)
        obtain ⟨i0, hi, hz0, hz1, hz2⟩ := info_parts Tryd.info5
        clear d0 d1 d2 d3 d4 hg hb5
        generalize hpe : (txtL key : List UInt8) = pp at *
        have HLP : Hid (pp.length ≤ 300) := Lib.hid (by have := HPJ.out; rw [HPE.out] at this; exact this)
        have hlp := HLP.out
        clear hpe
        go_wp2_with (at_builtin; refine wpList_append_sep _ rfl _ _ 33 rfl W1.heap.size 5 i0 (.int .u8 0) 1 1 Tryd.underlying33 hi hz0 hz1 hz2 rfl (by decide) _ _ _ rfl hown0 ⟨g, 0, none⟩ pp.length c5 (Lib.byteCells pp) rfl ?d1 hcells ?d2 ?d3 ?d4 ?d5 ?_)
        case d1 => rw [Lib.byteCells_length]; omega
        case d2 => intro u hu; simp [Lib.byteCells] at hu; obtain ⟨a, _, rfl⟩ := hu; rfl
        case d3 => unfold maxLen; omega
        case d4 => omega
        case d5 => omega
        intro v6 w6 hown6 hgrow6 _
        have HN6 : Hid (bs ++ pp = Lib.uvarint n ++ (s.data.toList.take (j + 1)).flatMap (pieceB key tx v lim) ∧ BAt W1 w6 v6 (bs ++ pp) ∧ (bs ++ pp).length ≤ 10 + 300 * (j + 1)) := Lib.hid ⟨by rw [HTK.out, ← List.append_assoc, ← HS.out.1, HPE.out], ⟨by rw [List.length_append, Lib.byteCells_append]; exact hown6, HB5.out.grown hgrow6 (by omega) (fun k hk => (hown0.lt k hk).1)⟩, by rw [List.length_append]; omega⟩
        obtain ⟨a6, c6, rfl⟩ := own_slice hown6
        clear hown6 hgrow6 hown0 hcells hi hz0 hz1 hz2
        go_wp2
        go_roundw
        case rel => exact ⟨bs ++ pp, j + 1, by go_num, by omega, HN6⟩
        case measure => simp [intOf]; omega
      have hn107 := h107
      clear h107
      by_cases h116 : c = 116
      · have hcc := h116
        have e107 : ((s[j].toNat : Int) == 107) = false := by rw [hcn]; rw [beq_eq_false_iff_ne]; intro h; exact hn107 (UInt8.toNat_inj.1 (by show c.toNat = 107; omega))
        have e116 : ((s[j].toNat : Int) == 116) = true := by rw [hcn, hcc]; rfl
        clear h116
        go_wp2_with fail
        refine (refText_any tx _ (by omega)).mono ?_
        rintro e w5 hg
        obtain ⟨g, c5, rfl, hcells, hb5⟩ := gives_row (l := txtL tx) hg (by simp only [txtL, List.length_append]; have := Lib.uvarint_pos tx.size; omega)
        have hown0 := own_keepO HS.out.2.1.own hb5
        have hz5 := hb5.size
        have HB5 : Hid (Below W1.heap.size W1 w5) := Lib.hid (HS.out.2.1.below.trans (hb5.mono hbz))
        have HPE : Hid (pieceB key tx v lim c = txtL tx) := Lib.hid (by rw [hcc]; rfl)
        obtain ⟨i0, hi, hz0, hz1, hz2⟩ := info_parts Tryd.info5
        clear d0 d1 d2 d3 d4 hg hb5
        generalize hpe : (txtL tx : List UInt8) = pp at *
        have HLP : Hid (pp.length ≤ 300) := Lib.hid (by have := HPJ.out; rw [HPE.out] at this; exact this)
        have hlp := HLP.out
        clear hpe
        go_wp2_with (at_builtin; refine wpList_append_sep _ rfl _ _ 33 rfl W1.heap.size 5 i0 (.int .u8 0) 1 1 Tryd.underlying33 hi hz0 hz1 hz2 rfl (by decide) _ _ _ rfl hown0 ⟨g, 0, none⟩ pp.length c5 (Lib.byteCells pp) rfl ?d1 hcells ?d2 ?d3 ?d4 ?d5 ?_)
        case d1 => rw [Lib.byteCells_length]; omega
        case d2 => intro u hu; simp [Lib.byteCells] at hu; obtain ⟨a, _, rfl⟩ := hu; rfl
        case d3 => unfold maxLen; omega
        case d4 => omega
        case d5 => omega
        intro v6 w6 hown6 hgrow6 _
        have HN6 : Hid (bs ++ pp = Lib.uvarint n ++ (s.data.toList.take (j + 1)).flatMap (pieceB key tx v lim) ∧ BAt W1 w6 v6 (bs ++ pp) ∧ (bs ++ pp).length ≤ 10 + 300 * (j + 1)) := Lib.hid ⟨by rw [HTK.out, ← List.append_assoc, ← HS.out.1, HPE.out], ⟨by rw [List.length_append, Lib.byteCells_append]; exact hown6, HB5.out.grown hgrow6 (by omega) (fun k hk => (hown0.lt k hk).1)⟩, by rw [List.length_append]; omega⟩
        obtain ⟨a6, c6, rfl⟩ := own_slice hown6
        clear hown6 hgrow6 hown0 hcells hi hz0 hz1 hz2
        go_wp2
        go_roundw
        case rel => exact ⟨bs ++ pp, j + 1, by go_num, by omega, HN6⟩
        case measure => simp [intOf]; omega
      have hn116 := h116
      clear h116
      by_cases h118 : c = 118
      · have hcc := h118
        have e107 : ((s[j].toNat : Int) == 107) = false := by rw [hcn]; rw [beq_eq_false_iff_ne]; intro h; exact hn107 (UInt8.toNat_inj.1 (by show c.toNat = 107; omega))
        have e116 : ((s[j].toNat : Int) == 116) = false := by rw [hcn]; rw [beq_eq_false_iff_ne]; intro h; exact hn116 (UInt8.toNat_inj.1 (by show c.toNat = 116; omega))
        have e118 : ((s[j].toNat : Int) == 118) = true := by rw [hcn, hcc]; rfl
        clear h118
        go_wp2_with fail
        refine (refNum_any v _ hv).mono ?_
        rintro e w5 hg
        obtain ⟨g, c5, rfl, hcells, hb5⟩ := gives_row (l := Lib.uvarint v) hg (by have := Lib.uvarint_pos v; omega)
        have hown0 := own_keepO HS.out.2.1.own hb5
        have hz5 := hb5.size
        have HB5 : Hid (Below W1.heap.size W1 w5) := Lib.hid (HS.out.2.1.below.trans (hb5.mono hbz))
        have HPE : Hid (pieceB key tx v lim c = Lib.uvarint v) := Lib.hid (by rw [hcc]; rfl)
        obtain ⟨i0, hi, hz0, hz1, hz2⟩ := info_parts Tryd.info5
        clear d0 d1 d2 d3 d4 hg hb5
        generalize hpe : (Lib.uvarint v : List UInt8) = pp at *
        have HLP : Hid (pp.length ≤ 300) := Lib.hid (by have := HPJ.out; rw [HPE.out] at this; exact this)
        have hlp := HLP.out
        clear hpe
        go_wp2_with (at_builtin; refine wpList_append_sep _ rfl _ _ 33 rfl W1.heap.size 5 i0 (.int .u8 0) 1 1 Tryd.underlying33 hi hz0 hz1 hz2 rfl (by decide) _ _ _ rfl hown0 ⟨g, 0, none⟩ pp.length c5 (Lib.byteCells pp) rfl ?d1 hcells ?d2 ?d3 ?d4 ?d5 ?_)
        case d1 => rw [Lib.byteCells_length]; omega
        case d2 => intro u hu; simp [Lib.byteCells] at hu; obtain ⟨a, _, rfl⟩ := hu; rfl
        case d3 => unfold maxLen; omega
        case d4 => omega
        case d5 => omega
        intro v6 w6 hown6 hgrow6 _
        have HN6 : Hid (bs ++ pp = Lib.uvarint n ++ (s.data.toList.take (j + 1)).flatMap (pieceB key tx v lim) ∧ BAt W1 w6 v6 (bs ++ pp) ∧ (bs ++ pp).length ≤ 10 + 300 * (j + 1)) := Lib.hid ⟨by rw [HTK.out, ← List.append_assoc, ← HS.out.1, HPE.out], ⟨by rw [List.length_append, Lib.byteCells_append]; exact hown6, HB5.out.grown hgrow6 (by omega) (fun k hk => (hown0.lt k hk).1)⟩, by rw [List.length_append]; omega⟩
        obtain ⟨a6, c6, rfl⟩ := own_slice hown6
        clear hown6 hgrow6 hown0 hcells hi hz0 hz1 hz2
        go_wp2
        go_roundw
        case rel => exact ⟨bs ++ pp, j + 1, by go_num, by omega, HN6⟩
        case measure => simp [intOf]; omega
      have hn118 := h118
      clear h118
      by_cases h108 : c = 108
      · have hcc := h108
        have e107 : ((s[j].toNat : Int) == 107) = false := by rw [hcn]; rw [beq_eq_false_iff_ne]; intro h; exact hn107 (UInt8.toNat_inj.1 (by show c.toNat = 107; omega))
        have e116 : ((s[j].toNat : Int) == 116) = false := by rw [hcn]; rw [beq_eq_false_iff_ne]; intro h; exact hn116 (UInt8.toNat_inj.1 (by show c.toNat = 116; omega))
        have e118 : ((s[j].toNat : Int) == 118) = false := by rw [hcn]; rw [beq_eq_false_iff_ne]; intro h; exact hn118 (UInt8.toNat_inj.1 (by show c.toNat = 118; omega))
        have e108 : ((s[j].toNat : Int) == 108) = true := by rw [hcn, hcc]; rfl
        have hlm := HHB.out hcc
        obtain ⟨m, rfl⟩ : ∃ m : Nat, lim = m := ⟨lim.toNat, by omega⟩
        clear h108
        go_wp2_with fail
        refine (refNum_any m _ (by omega)).mono ?_
        rintro e w5 hg
        obtain ⟨g, c5, rfl, hcells, hb5⟩ := gives_row (l := Lib.uvarint m) hg (by have := Lib.uvarint_pos m; omega)
        have hown0 := own_keepO HS.out.2.1.own hb5
        have hz5 := hb5.size
        have HB5 : Hid (Below W1.heap.size W1 w5) := Lib.hid (HS.out.2.1.below.trans (hb5.mono hbz))
        have HPE : Hid (pieceB key tx v (m : Nat) c = Lib.uvarint m) := Lib.hid (by rw [hcc]; rfl)
        obtain ⟨i0, hi, hz0, hz1, hz2⟩ := info_parts Tryd.info5
        clear d0 d1 d2 d3 d4 hg hb5
        generalize hpe : (Lib.uvarint m : List UInt8) = pp at *
        have HLP : Hid (pp.length ≤ 300) := Lib.hid (by have := HPJ.out; rw [HPE.out] at this; exact this)
        have hlp := HLP.out
        clear hpe
        go_wp2_with (at_builtin; refine wpList_append_sep _ rfl _ _ 33 rfl W1.heap.size 5 i0 (.int .u8 0) 1 1 Tryd.underlying33 hi hz0 hz1 hz2 rfl (by decide) _ _ _ rfl hown0 ⟨g, 0, none⟩ pp.length c5 (Lib.byteCells pp) rfl ?d1 hcells ?d2 ?d3 ?d4 ?d5 ?_)
        case d1 => rw [Lib.byteCells_length]; omega
        case d2 => intro u hu; simp [Lib.byteCells] at hu; obtain ⟨a, _, rfl⟩ := hu; rfl
        case d3 => unfold maxLen; omega
        case d4 => omega
        case d5 => omega
        intro v6 w6 hown6 hgrow6 _
        have HN6 : Hid (bs ++ pp = Lib.uvarint n ++ (s.data.toList.take (j + 1)).flatMap (pieceB key tx v (m : Nat)) ∧ BAt W1 w6 v6 (bs ++ pp) ∧ (bs ++ pp).length ≤ 10 + 300 * (j + 1)) := Lib.hid ⟨by rw [HTK.out, ← List.append_assoc, ← HS.out.1, HPE.out], ⟨by rw [List.length_append, Lib.byteCells_append]; exact hown6, HB5.out.grown hgrow6 (by omega) (fun k hk => (hown0.lt k hk).1)⟩, by rw [List.length_append]; omega⟩
        obtain ⟨a6, c6, rfl⟩ := own_slice hown6
        clear hown6 hgrow6 hown0 hcells hi hz0 hz1 hz2
        go_wp2
        go_roundw
        case rel => exact ⟨bs ++ pp, j + 1, by go_num, by omega, HN6⟩
        case measure => simp [intOf]; omega
      have hn108 := h108
      clear h108
      have e107 : ((s[j].toNat : Int) == 107) = false := by rw [hcn]; rw [beq_eq_false_iff_ne]; intro h; exact hn107 (UInt8.toNat_inj.1 (by show c.toNat = 107; omega))
      have e116 : ((s[j].toNat : Int) == 116) = false := by rw [hcn]; rw [beq_eq_false_iff_ne]; intro h; exact hn116 (UInt8.toNat_inj.1 (by show c.toNat = 116; omega))
      have e118 : ((s[j].toNat : Int) == 118) = false := by rw [hcn]; rw [beq_eq_false_iff_ne]; intro h; exact hn118 (UInt8.toNat_inj.1 (by show c.toNat = 118; omega))
      have e108 : ((s[j].toNat : Int) == 108) = false := by rw [hcn]; rw [beq_eq_false_iff_ne]; intro h; exact hn108 (UInt8.toNat_inj.1 (by show c.toNat = 108; omega))
      have HPE : Hid (pieceB key tx v lim c = []) := Lib.hid (by unfold pieceB; rw [if_neg hn107, if_neg hn116, if_neg hn118, if_neg hn108])
      have HN6 : Hid (bs = Lib.uvarint n ++ (s.data.toList.take (j + 1)).flatMap (pieceB key tx v lim) ∧ BAt W1 wr (.slice av bs.length cv) bs ∧ bs.length ≤ 10 + 300 * (j + 1)) := Lib.hid ⟨by rw [HTK.out, HPE.out, List.append_nil]; exact HS.out.1, HS.out.2.1, by omega⟩
      go_wp2
      go_roundw
      case rel => exact ⟨bs, j + 1, by go_num, by omega, HN6⟩
      case measure => simp [intOf]; omega
    · have hji : ¬ (j : Int) < s.size := by omega
      have hjs : j = s.size := by omega
      obtain ⟨av, cv, rfl⟩ := own_slice hst.out.2.1.own
      have HEQ : Hid (bs = R) := Lib.hid (by rw [hst.out.1, HR0.out, hjs, List.take_of_length_le (by simp)])
      have HF : Hid (wr.ownsRow w.heap.size 5 1 (.slice av bs.length cv) bs.length (Lib.byteCells bs) ∧ Below w.heap.size w wr) := Lib.hid ⟨ownMonoO hst.out.2.1.own HX.out.size, HX.out.trans (hst.out.2.1.below.mono HX.out.size)⟩
      clear hst
      go_wp2
      go_ret
      rw [← HEQ.out]
      exact ⟨_, rfl, HF.out.1, HF.out.2⟩
end Go.Proofs.YtmkglaghnjnooaaDoor
