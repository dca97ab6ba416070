/- The law OpReads, walked: it returns true; nothing that was there has turned. Conditions: the bytes lie in memory that was there; the table of names. -/
import Derived.Test.YtmkglaghnjnooaaDoorOpFwd
import Derived.Test.YtmkglaghnjnooaaDoorOpRReadF
import Derived.Test.YtmkglaghnjnooaaDoorOpWritesW
namespace Go.Proofs.YtmkglaghnjnooaaDoor
open Go.RowKit

theorem Bs.below {w w' : World} {eb : Nat} {v : Value} {bs : List UInt8} (h : Bs w eb v bs) (hb : Below w.heap.size w w') (eb' : Nat) (he : w.heap.size ≤ eb') : Bs w' eb' v bs := by
  obtain ⟨ao, c, h2, h3, h4, h5⟩ := h
  refine ⟨ao, c, h2, h3, h4, fun hne => ?_⟩
  obtain ⟨g, o, e, hg, hc⟩ := h5 hne
  have hpos := List.length_pos_iff.2 hne
  have hlt := World.block_lt_of_cell? w _ (hc 0 hpos)
  exact ⟨g, o, e, by show g ≠ eb'; simp only at hlt; omega, fun j hj => (hb.cell (p := ⟨g, o + j, none⟩) (World.block_lt_of_cell? w _ (hc j hj))).trans (hc j hj)⟩
theorem conv_take {w : World} {eb len c : Nat} {ao : Option Addr} {bs : List UInt8} (h : Bs w eb (.slice ao len c) bs) (n : Nat) (x : List UInt8) (hx : bs.take n = x) (hn : x.length = n) :
    (convert 33 9 (.slice ao n c)).run Tryd.prog w = .ok (.string ⟨x.toArray⟩) w := by
  obtain ⟨ao', c', e, h3, h4, h5⟩ := h
  injection e with e1 e2 e3
  subst e1 e2 e3
  subst hx
  refine conv_cells w ao n c (bs.take n) hn ?_
  by_cases h0 : n = 0
  · exact Or.inl h0
  · right
    have hne : bs ≠ [] := by intro e; subst e; simp at hn; exact h0 hn.symm
    obtain ⟨g, o, e, _, hc⟩ := h5 hne
    rw [List.length_take] at hn
    refine ⟨_, e, fun j hj => ?_⟩
    have hj2 := hj
    rw [List.length_take] at hj2
    have := hc j (by omega)
    rw [List.getElem_take, add_at]
    exact this
theorem Bs.len {w : World} {eb len c : Nat} {ao : Option Addr} {bs : List UInt8} (h : Bs w eb (.slice ao len c) bs) : len = bs.length ∧ bs.length ≤ c ∧ c ≤ 9223372036854775807 := by
  obtain ⟨ao', c', e, h3, h4, _⟩ := h
  injection e with e1 e2 e3
  subst e1 e2 e3
  exact ⟨rfl, h3, h4⟩
theorem EyeS.over {W W' : World} {eb rb : Nat} {s t : ES} (h : EyeS W eb s) (hr : REye W rb t) (hw : Ew rb W W') (hne : eb ≠ rb) : EyeS W' eb s := by
  obtain ⟨⟨v, h1, ao, cc, h2, h3, h4, h5⟩, h6⟩ := h
  obtain ⟨⟨u, r1, ao2, c2, r2, _⟩, _⟩ := hr
  refine ⟨⟨v, (hw.block eb (lt_of_block h1) hne).trans h1, ao, cc, h2, h3, h4, fun hb => ?_⟩, h6⟩
  obtain ⟨g, o, e1, hg, hc⟩ := h5 hb
  have hpos := List.length_pos_iff.2 hb
  have hgr : g ≠ rb := by
    intro e2
    subst e2
    have := hc 0 hpos
    subst r2
    simp only [World.cell?, r1] at this
    match hi : o + 0, this with
    | 0, this => simp at this
    | 1, this => simp at this
    | (n + 2), this => simp at this
  refine ⟨g, o, e1, hg, fun j hj => ?_⟩
  exact (hw.cell (p := ⟨g, o + j, none⟩) (World.block_lt_of_cell? W _ (hc j hj)) hgr).trans (hc j hj)

/-- Behind both readings: both operations' boxes, both eyes. -/
structure TwoR (w W : World) (eb rb gx gy : Nat) (s : ES) (cs : Array Value) : Prop where
  eye : EyeS W eb s
  ref : REye W rb s
  x : BX W gx 24 cs
  y : BX W gy 24 cs
  below : Below w.heap.size w W
  ge : w.heap.size ≤ eb ∧ w.heap.size ≤ rb

set_option maxHeartbeats 16000000 in
set_option maxRecDepth 100000 in
theorem opReads_law (bs : List UInt8) (len c : Nat) (ao : Option Addr) (w : World) (hb : Bs w w.heap.size (.slice ao len c) bs) (hnt : NamesAt w) :
    Calls Tryd.prog 5 #[.slice ao len c] w fun e w' => e = .returned (.bool true) ∧ Below w.heap.size w w' := by
  obtain ⟨hlen, hc1, hc2⟩ := hb.len
  have HBS := Lib.hid hb
  have HNT := Lib.hid hnt
  have HLEN := Lib.hid hlen
  clear hb hnt
  by_cases hs : len ≤ 1000
  case neg =>
    have gs : (1000 : Int) < len := by omega
    have HLV := Lib.hid (lives16 w HNT.out)
    go_enter Tryd.func5, Tryd.ntmps5
    go_wp2_with fail
    refine HLV.out.mono ?_
    rintro e w1 ⟨rfl, hb1⟩
    go_wp2
    go_ret
    exact ⟨rfl, hb1⟩
  have gs : ¬ (1000 : Int) < len := by omega
  have hcl : len ≤ c := by omega
  obtain ⟨eb, heb⟩ : ∃ eb, eb = w.heap.size := ⟨_, rfl⟩
  have HLK := Lib.hid (look_any bs (.slice ao len c) w eb heb (by rw [heb]; exact HBS.out))
  have HEB := Lib.hid heb
  have hfwd := read_fwd (bs, 0)
  rcases hF : readF (bs, 0) with ⟨⟨⟨k, key, tx, v, lim⟩, ok⟩, ⟨rest, qf⟩⟩
  have HRO := Lib.hid (fun W (h : EyeS W eb (bs, 0)) => opRead_any eb (bs, 0) W h)
  have HRR := Lib.hid (fun rb W (h : REye W rb (bs, 0)) => rreadop_any rb (bs, 0) W h)
  rw [hF] at hfwd HRO HRR
  unfold OpV.arr at HRO HRR
  simp only at hfwd HRO HRR
  have HFW := Lib.hid hfwd
  clear hfwd hF hlen hc1 heb
  go_enter Tryd.func5, Tryd.ntmps5
  go_wp2_with fail
  refine HLK.out.mono ?_
  rintro e w1 ⟨rfl, hk1⟩
  have hew1 := hk1.2
  have hz1 : w.heap.size ≤ w1.heap.size := hew1.size
  have helt : eb < w1.heap.size := by obtain ⟨⟨_, h, _⟩, _⟩ := hk1; exact lt_of_block h
  have hb1 : Below w.heap.size w w1 := ew_under hew1 (by have := HEB.out; omega) (Nat.le_refl _)
  have n2 : (w1.alloc (.cells #[.slice ao len c, .int .i64 0] 48)).heap[w1.heap.size]? = some (.cells #[.slice ao len c, .int .i64 0] 48 (0, 0)) := heap_alloc_new w1 _
  have hx2 := boxed_below w1 (.cells #[.slice ao len c, .int .i64 0] 48)
  obtain ⟨W2, hW2⟩ : ∃ W, W = w1.alloc (.cells #[.slice ao len c, .int .i64 0] 48) := ⟨_, rfl⟩
  rw [← hW2] at n2 hx2
  obtain ⟨rb, hrb⟩ : ∃ rb, rb = w1.heap.size := ⟨_, rfl⟩
  rw [← hrb] at n2
  have HB2 : Hid (Below w.heap.size w W2) := Lib.hid (hb1.trans (hx2.mono hz1))
  have HE2 : Hid (EyeS W2 eb (bs, 0)) := Lib.hid ⟨(Eye.keep hk1.1 hx2 : Eye W2 eb bs 0), fun h => absurd rfl h⟩
  have HGE : Hid (w.heap.size ≤ eb ∧ eb < rb ∧ w.heap.size ≤ rb) := Lib.hid ⟨by have := HEB.out; omega, by omega, by omega⟩
  have HN2 := Lib.hid n2
  have HRL : Hid (rb < W2.heap.size) := Lib.hid (lt_of_block n2)
  have HW2 := Lib.hid hW2
  have HRB := Lib.hid hrb
  clear hk1 hew1 hz1 helt hb1 n2 hx2 hW2 hrb HLK
  go_upto_region 4 with fail
  rw [← HW2.out, ← HRB.out]
  clear HW2 HRB
  go_wp2_with fail
  refine (HRO.out _ HE2.out).mono ?_
  rintro e w3 ⟨rfl, hr3⟩
  have HE3 := Lib.hid hr3.1
  have hz3 := hr3.2.size
  have HB3 : Hid (Below w.heap.size w w3) := Lib.hid (HB2.out.trans (ew_under hr3.2 HGE.out.1 HB2.out.size))
  have HR3 : Hid (REye w3 rb (bs, 0)) := Lib.hid ⟨⟨_, (hr3.2.block rb HRL.out (by have := HGE.out; omega)).trans HN2.out, HBS.out.below HB3.out rb HGE.out.2.2⟩, fun h => absurd rfl h⟩
  have nx := BX.new w3 24 #[.int .i64 k, .string key, .string tx, .int .u64 (v : Nat), .int .i64 lim]
  have hx4 := boxed_below w3 (.cells #[.int .i64 k, .string key, .string tx, .int .u64 (v : Nat), .int .i64 lim] 24)
  obtain ⟨W4, hW4⟩ : ∃ W, W = w3.alloc (.cells #[.int .i64 k, .string key, .string tx, .int .u64 (v : Nat), .int .i64 lim] 24) := ⟨_, rfl⟩
  rw [← hW4] at nx hx4
  obtain ⟨gx, hgx⟩ : ∃ g, g = w3.heap.size := ⟨_, rfl⟩
  rw [← hgx] at nx
  have HX4 := Lib.hid nx
  have HE4 := Lib.hid (HE3.out.under hx4)
  have HR4 := Lib.hid (REye.under HR3.out hx4)
  have HB4 : Hid (Below w.heap.size w W4) := Lib.hid (HB3.out.trans (hx4.mono HB3.out.size))
  have HXR : Hid (gx ≠ rb) := Lib.hid (by have := HRL.out; omega)
  have HW4 := Lib.hid hW4
  have HGX := Lib.hid hgx
  clear hr3 hz3 nx hx4 hW4 hgx HE2 HB2 HN2 HRL HE3 HB3 HR3
  go_upto_region 5 with fail
  rw [← HW4.out, ← HGX.out]
  clear HW4 HGX
  go_wp2_with fail
  refine (HRR.out rb _ HR4.out).mono ?_
  rintro e w5 ⟨rfl, hr5⟩
  have ny := BX.new w5 24 #[.int .i64 k, .string key, .string tx, .int .u64 (v : Nat), .int .i64 lim]
  have hx6 := boxed_below w5 (.cells #[.int .i64 k, .string key, .string tx, .int .u64 (v : Nat), .int .i64 lim] 24)
  obtain ⟨W6, hW6⟩ : ∃ W, W = w5.alloc (.cells #[.int .i64 k, .string key, .string tx, .int .u64 (v : Nat), .int .i64 lim] 24) := ⟨_, rfl⟩
  rw [← hW6] at ny hx6
  obtain ⟨gy, hgy⟩ : ∃ g, g = w5.heap.size := ⟨_, rfl⟩
  rw [← hgy] at ny
  have HT : Hid (TwoR w W6 eb rb gx gy (rest, qf) #[.int .i64 k, .string key, .string tx, .int .u64 (v : Nat), .int .i64 lim]) := Lib.hid (by
    have hge := HGE.out
    have hb5 : Below w.heap.size w w5 := HB4.out.trans (ew_under hr5.2 hge.2.2 HB4.out.size)
    exact ⟨(HE4.out.over HR4.out hr5.2 (by omega)).under hx6, REye.under hr5.1 hx6, BX.below ((hr5.2.block gx (lt_of_block HX4.out) HXR.out).trans HX4.out) hx6, ny, hb5.trans (hx6.mono hb5.size), hge.1, hge.2.2⟩)
  have HW6 := Lib.hid hW6
  have HGY := Lib.hid hgy
  clear hr5 ny hx6 hW6 hgy HX4 HE4 HR4 HB4 HXR HRR HRO
  go_upto_region 6 with fail
  rw [← HW6.out, ← HGY.out]
  clear HW6 HGY
  obtain ⟨⟨u0, r1, ao2, c2, r2, r3, r4, _⟩, _⟩ := HT.out.ref
  simp only at r1 r2 r3
  subst r2
  have HR1 : Hid (∀ p : Later W6, p.w.heap[rb]? = some (.cells #[.slice ao2 rest.length c2, .int .i64 qf] 48 (0, 0))) := Lib.hid (fun p => (p.h.block rb (lt_of_block r1)).trans r1)
  clear r1
  have a0 : ∀ p : Later W6, p.w.cell? ⟨gx, 0, none⟩ = some (.int .i64 k) := fun p => (HT.out.x.below p.h).cell 0 rfl
  have a1 : ∀ p : Later W6, p.w.cell? ⟨gx, 1, none⟩ = some (.string key) := fun p => (HT.out.x.below p.h).cell 1 rfl
  have a2 : ∀ p : Later W6, p.w.cell? ⟨gx, 2, none⟩ = some (.string tx) := fun p => (HT.out.x.below p.h).cell 2 rfl
  have a3 : ∀ p : Later W6, p.w.cell? ⟨gx, 3, none⟩ = some (.int .u64 (v : Nat)) := fun p => (HT.out.x.below p.h).cell 3 rfl
  have a4 : ∀ p : Later W6, p.w.cell? ⟨gx, 4, none⟩ = some (.int .i64 lim) := fun p => (HT.out.x.below p.h).cell 4 rfl
  have b0 : ∀ p : Later W6, p.w.cell? ⟨gy, 0, none⟩ = some (.int .i64 k) := fun p => (HT.out.y.below p.h).cell 0 rfl
  have b1 : ∀ p : Later W6, p.w.cell? ⟨gy, 1, none⟩ = some (.string key) := fun p => (HT.out.y.below p.h).cell 1 rfl
  have b2 : ∀ p : Later W6, p.w.cell? ⟨gy, 2, none⟩ = some (.string tx) := fun p => (HT.out.y.below p.h).cell 2 rfl
  have b3 : ∀ p : Later W6, p.w.cell? ⟨gy, 3, none⟩ = some (.int .u64 (v : Nat)) := fun p => (HT.out.y.below p.h).cell 3 rfl
  have b4 : ∀ p : Later W6, p.w.cell? ⟨gy, 4, none⟩ = some (.int .i64 lim) := fun p => (HT.out.y.below p.h).cell 4 rfl
  have z0 : ∀ p : Later W6, p.w.cell? ⟨rb, 0, none⟩ = some (.slice ao2 rest.length c2) := fun p => two_cell0 (HR1.out p)
  have z1 : ∀ p : Later W6, p.w.cell? ⟨rb, 1, none⟩ = some (.int .i64 qf) := fun p => two_cell1 (HR1.out p)
  have HLF := Lib.hid (fun W (h : Below W6.heap.size W6 W) => (left_any eb qf rest W (HT.out.eye.under h).1).mono (fun e w' ⟨h1, h2⟩ => (⟨h1, by rw [← h2]; exact Below.refl _ _⟩ : e = Ending.returned (.int .i64 rest.length) ∧ Below W.heap.size W w')))
  have HFA := Lib.hid (fun W (h : Below W6.heap.size W6 W) => (fault_any eb qf rest W (HT.out.eye.under h).1).mono (fun e w' ⟨h1, h2⟩ => (⟨h1, by rw [← h2]; exact Below.refl _ _⟩ : e = Ending.returned (.int .i64 qf) ∧ Below W.heap.size W w')))
  refine wp_region_later (by kernel_rfl) (by kernel_rfl) ?_
  repeat (quiet_step (first | (go_at_call 24; (with_reducible exact later_of (HLF.out _ (Later.h _)))) | (go_at_call 21; (with_reducible exact later_of (HFA.out _ (Later.h _))))))
  refine wpQuiet_nil ?_
  intro wz hw'
  have hwz : Below W6.heap.size W6 wz := by
    obtain ⟨⟨wy, hwy⟩, hw''⟩ := hw'
    rw [hw'']
    exact hwy
  have HBZ : Hid (Below w.heap.size w wz) := Lib.hid (HT.out.below.trans (hwz.mono HT.out.below.size))
  have HEZ := Lib.hid (HT.out.eye.under hwz)
  have HXZ := Lib.hid (HT.out.x.below hwz)
  clear hw' a0 a1 a2 a3 a4 b0 b1 b2 b3 b4 z0 z1 HLF HFA HR1 hwz r3 r4
  cases ok with
  | false =>
    have HLV := Lib.hid (lives16 wz (HNT.out.below HBZ.out))
    go_wp2_with fail
    refine HLV.out.mono ?_
    rintro e w8 ⟨rfl, hb8⟩
    go_wp2
    go_ret
    exact ⟨rfl, HBZ.out.trans (hb8.mono HBZ.out.size)⟩
  | true =>
  obtain ⟨hq0, hbs, hv, hks, hts⟩ := HFW.out rfl
  subst hq0
  have hbs' : bs = (⟨k, key, tx, v, lim⟩ : OpV).bytes ++ rest := congrArg Prod.fst hbs
  clear hbs HFW
  obtain ⟨L, hL⟩ : ∃ L, L = (⟨k, key, tx, v, lim⟩ : OpV).bytes := ⟨_, rfl⟩
  rw [← hL] at hbs'
  have hLl : L.length ≤ 500 := by rw [hL]; exact (opBytes_len _ hv ⟨by simp only; omega, by simp only; omega⟩).2
  have hll : len = L.length + rest.length := by rw [HLEN.out, hbs', List.length_append]
  have htk : bs.take L.length = L := by rw [hbs']; simp
  -- the pen, and the list of one
  obtain ⟨pb, hpb⟩ : ∃ pb, pb = wz.heap.size := ⟨_, rfl⟩
  have hp0 := pen_new wz
  have hx8 := boxed_below wz (.cells #[.slice none 0 0] 35)
  obtain ⟨W8, hW8⟩ : ∃ W, W = wz.alloc (.cells #[.slice none 0 0] 35) := ⟨_, rfl⟩
  have hs8 : W8.heap.size = wz.heap.size + 1 := by rw [hW8, World.size_alloc]
  rw [← hW8, ← hpb] at hp0
  rw [← hW8] at hx8
  have HP8 := Lib.hid hp0
  have HX8 := Lib.hid (HXZ.out.below hx8)
  have HE8 := Lib.hid (HEZ.out.under hx8)
  have HB8 : Hid (Below w.heap.size w W8) := Lib.hid (HBZ.out.trans (hx8.mono HBZ.out.size))
  have hx9 := boxed_below W8 (.cells #[.int .i64 k, .string key, .string tx, .int .u64 (v : Nat), .int .i64 lim] 24)
  have hop : Ops (W8.alloc (.cells #[.int .i64 k, .string key, .string tx, .int .u64 (v : Nat), .int .i64 lim] 24)) (W8.heap.size + 1) (some ⟨W8.heap.size, 0, none⟩) 1 (fun _ => ⟨k, key, tx, v, lim⟩) := by
    intro i hi
    obtain rfl : i = 0 := by omega
    refine ⟨W8.heap.size, 0, rfl, by omega, fun j u hu => ?_⟩
    match j, hu with
    | 0, hu => exact (World.cell?_alloc_new _ _ _ _).trans hu
    | 1, hu => exact (World.cell?_alloc_new _ _ _ _).trans hu
    | 2, hu => exact (World.cell?_alloc_new _ _ _ _).trans hu
    | 3, hu => exact (World.cell?_alloc_new _ _ _ _).trans hu
    | 4, hu => exact (World.cell?_alloc_new _ _ _ _).trans hu
    | (n + 5), hu => simp [OpV.vals] at hu
  obtain ⟨W9, hW9⟩ : ∃ W, W = W8.alloc (.cells #[.int .i64 k, .string key, .string tx, .int .u64 (v : Nat), .int .i64 lim] 24) := ⟨_, rfl⟩
  have hs9 : W9.heap.size = W8.heap.size + 1 := by rw [hW9, World.size_alloc]
  rw [← hW9] at hx9 hop
  have hp9 := hp0.under hx9
  have HWL := Lib.hid (opWriteL_any pb pb (some ⟨W8.heap.size, 0, none⟩) 1 1 (fun _ => ⟨k, key, tx, v, lim⟩) [] W9 (by rw [hs9]; exact hop) (fun _ _ => ⟨hv, by simp only; omega, by simp only; omega⟩) (fun _ _ => ⟨by simp only; omega, by simp only; omega⟩) (by omega) (by simp) hp9 (by omega) (fun _ b off e => by
    injection e with e; injection e with e _ _
    refine ⟨by omega, fun e3 => ?_⟩
    rw [penRow_under hp0 hx9] at e3
    have := (hp0.row _ e3.symm).2.1
    omega))
  have hone : opsB (fun _ => (⟨k, key, tx, v, lim⟩ : OpV)) 1 = L := by rw [opsB_succ, opsB_zero, List.nil_append, hL]
  rw [List.nil_append, hone] at HWL
  have HB9 : Hid (Below w.heap.size w W9) := Lib.hid (HB8.out.trans (hx9.mono HB8.out.size))
  have HE9 := Lib.hid (HE8.out.under hx9)
  have HP9 := Lib.hid hp9
  have HPB : Hid (w.heap.size ≤ pb ∧ eb < pb ∧ pb ≤ W9.heap.size) := Lib.hid ⟨by have := HBZ.out.size; omega, by have := HEZ.out.lt; omega, by omega⟩
  have HX89 : Hid (Below wz.heap.size wz W9) := Lib.hid (hx8.trans (hx9.mono (by omega)))
  have HPQ := Lib.hid hpb
  have HW8 := Lib.hid hW8
  have HW9 := Lib.hid hW9
  have HPBE := Lib.hid hpb
  have HLL := Lib.hid hll
  have HTK := Lib.hid htk
  have HLL5 := Lib.hid hLl
  have c0 : W8.cell? ⟨gx, 0, none⟩ = some (.int .i64 k) := HX8.out.cell 0 rfl
  have c1 : W8.cell? ⟨gx, 1, none⟩ = some (.string key) := HX8.out.cell 1 rfl
  have c2 : W8.cell? ⟨gx, 2, none⟩ = some (.string tx) := HX8.out.cell 2 rfl
  have c3 : W8.cell? ⟨gx, 3, none⟩ = some (.int .u64 (v : Nat)) := HX8.out.cell 3 rfl
  have c4 : W8.cell? ⟨gx, 4, none⟩ = some (.int .i64 lim) := HX8.out.cell 4 rfl
  clear hp0 hx8 hW8 hs8 hx9 hop hW9 hs9 hp9 hone hpb hll htk hLl hL hbs' hv hks hts HXZ
  go_upto_region 11 with fail
  rw [← HW8.out, ← HPBE.out]
  clear HPBE
  go_wp2_with fail
  rw [← HW9.out]
  refine HWL.out.mono ?_
  rintro e wa ⟨rfl, hda⟩
  have HBA : Hid (Below pb W9 wa) := Lib.hid (hda.2.below HP9.out HPB.out.2.2)
  have HPA := Lib.hid hda.1
  have HBW : Hid (Below w.heap.size w wa) := Lib.hid (HB9.out.trans (HBA.out.mono HPB.out.1))
  have HZA : Hid (Below wz.heap.size wz wa) := Lib.hid (HX89.out.trans (by rw [← HPQ.out]; exact HBA.out))
  have HEA := Lib.hid (HEZ.out.under HZA.out)
  obtain ⟨m, hm⟩ : ∃ m, m = L.length := ⟨_, rfl⟩
  have hll := HLL.out
  have hmc : m ≤ c := by omega
  have hmc2 : (m : Int) ≤ (c : Int) := by omega
  have hmn : (0 : Int) ≤ (m : Int) := by omega
  have hmt : ((m : Int)).toNat = m := by omega
  have hsub : (len : Int) - (rest.length : Int) = (m : Int) := by omega
  have hsub2 : IntKind.i64.wrap (m : Int) = (m : Int) := by rw [IntKind.wrap_i64]; omega
  have hsub3 : wrap64 (m : Int) = (m : Int) := by unfold wrap64; omega
  have HM := Lib.hid hm
  have HS : Hid (∀ V, Below wa.drew.heap.size wa.drew V → (convert 33 9 (.slice ao m c)).run Tryd.prog V = .ok (.string ⟨L.toArray⟩) V ∧ Pen V pb pb L ∧ Eye V eb rest 0 ∧ Below wa.drew.heap.size wa.drew V) := Lib.hid (fun V h =>
    ⟨conv_take (HBS.out.below (HBW.out.drew.trans (h.mono HBW.out.size)) w.heap.size (Nat.le_refl _)) m _ (by rw [HM.out]; exact HTK.out) HM.out.symm, Pen.under (w := wa.drew) HPA.out h, (EyeS.under (w := wa.drew) HEA.out h).1, h⟩)
  have HLN : Hid (L.length ≤ 70368744177664) := Lib.hid (by have := HLL5.out; omega)
  have HLV := Lib.hid (fun V (h : Below wa.drew.heap.size wa.drew V) => lives16 V (HNT.out.below (HBW.out.drew.trans (h.mono HBW.out.size))))
  clear hda hll hm HWL HW9 c0 c1 c2 c3 c4
  go_upto_region 12 with fail
  go_region_held_law (fun V => (convert 33 9 (.slice ao m c)).run Tryd.prog V = .ok (.string ⟨L.toArray⟩) V ∧ Pen V pb pb L ∧ Eye V eb rest 0 ∧ Below wa.drew.heap.size wa.drew V)
    (first | exact HS.out _ (Below.refl _ _) | exact HS.out _ h9 | exact HS.out _ h10 | assumption)
    (first
      | (go_at_call 24; refine (left_any eb 0 rest _ (And.left (And.right (And.right (by assumption))))).mono ?_; rintro e w11 ⟨rfl, rfl⟩)
      | (go_at_call 18; refine (penBytes_any pb pb L _ HLN.out (And.left (And.right (by assumption)))).mono ?_; rintro e w5 ⟨v5, rfl, hown5, hbel5⟩; have hcv5 := conv_own hown5; have h9 : Below wa.drew.heap.size wa.drew w5 := below_onW (And.right (And.right (And.right (by assumption)))) (Nat.le_refl _) hbel5; obtain ⟨a5, c5, rfl⟩ := own_slice hown5; clear hown5)
      | (go_at_call 7; refine (HLV.out _ (And.right (And.right (And.right (by assumption))))).mono ?_; rintro e w12 ⟨rfl, hb12⟩; have h10 : Below wa.drew.heap.size wa.drew w12 := below_onW (And.right (And.right (And.right (by assumption)))) (Nat.le_refl _) hb12))
  all_goals
    go_wp2
    go_ret
    exact ⟨rfl, HBW.out.drew.trans (Below.mono (w := wa.drew) h10 HBW.out.size)⟩
end Go.Proofs.YtmkglaghnjnooaaDoor
