/- The law AnswerTells, walked: it returns true; nothing that was there has turned. bowerlaw17.lives. Conditions: two answers as they are read; the table of names. -/
import Derived.Test.YtgckgagnodkhjaaRRRRDoorAnsWrite
import Derived.Test.YtgckgagnodkhjaaRRRRDoorOpLives
namespace Go.Proofs.YtgckgagnodkhjaaRRRRDoor
open Go.RowKit

theorem rdp_none (w : World) : RdP w (.slice none 0 0) [] := ⟨none, 0, rfl, Nat.le_refl _, by omega, fun h => absurd h (by simp)⟩
theorem below_on17 {B : Nat} {w V V' : World} (h : Below B w V) (hB : B ≤ w.heap.size) (hb : Below V.heap.size V V') : Below B w V' := h.trans (hb.mono (Nat.le_trans hB h.size))

set_option maxHeartbeats 3200000 in
set_option maxRecDepth 100000 in
theorem lives17 (w : World) (ht : NamesAt17 w) : Calls Tryd.prog 6 #[] w fun e w' => e = .returned (.bool true) ∧ Below w.heap.size w w' := by
  have hp0 := pen_new w
  obtain ⟨W1, hW1⟩ : ∃ W, W = w.alloc (.cells #[.slice none 0 0] 38) := ⟨_, rfl⟩
  have hb1 : Below w.heap.size w W1 := by rw [hW1]; exact boxed_below _ _
  have hs1 : W1.heap.size = w.heap.size + 1 := by rw [hW1, World.size_alloc]
  rw [← hW1] at hp0
  have HWR := Lib.hid (ansWrite_any w.heap.size w.heap.size 1 5 ⟨#[]⟩ none 0 0 [] [] W1 (ht.below hb1) (rdp_none _) (fun p h => by cases h) (by omega) (fun i hi => absurd hi (by simp)) (by simp) hp0 (by omega))
  rw [List.nil_append, lives_bytes17] at HWR
  have HW1 := Lib.hid hW1
  have HP1 := Lib.hid hp0
  have HB1 := Lib.hid hb1
  have HT := Lib.hid ht
  have hpen1 : w.heap.size ≤ W1.heap.size := by omega
  clear hp0 hb1 hW1 ht hs1
  go_enter Tryd.func6, Tryd.ntmps6
  go_upto_region 2 with fail
  rw [← HW1.out]
  go_wp2_with fail
  refine HWR.out.mono ?_
  rintro e w3 ⟨rfl, hd⟩
  have hp3 := hd.1
  have hb3 : Below w.heap.size w w3 := HB1.out.trans (hd.2.below HP1.out hpen1)
  clear hd HWR HW1
  go_wp2_with fail
  refine (penBytes_any _ _ _ _ (by simp) hp3).mono ?_
  rintro e w5 ⟨v, rfl, hown, hbel⟩
  have hcv := conv_own hown
  have HB5 : Hid (Below w.heap.size w w5) := Lib.hid (hb3.trans (hbel.mono hb3.size))
  obtain ⟨ao, c, rfl⟩ := own_slice hown
  have hcv2 : (convert 36 9 (.slice ao 4 c)).run Tryd.prog w5 = .ok (.string ⟨#[1, 0, 5, 0]⟩) w5 := hcv
  clear hown hp3 hb3 hcv hbel
  have HOF := Lib.hid (ansOf_any ⟨#[]⟩ 0 false w5)
  rw [if_neg (by decide), if_neg (by decide), if_neg (by decide)] at HOF
  go_wp2_with fail
  refine HOF.out.mono ?_
  rintro e w6 ⟨rfl, hb6⟩
  have HB6 := Lib.hid (HB5.out.trans (hb6.mono HB5.out.size))
  clear hb6
  have hfd : ∀ w : World, (Instr.field 25 (.agg #[.int .i64 2, .string ⟨#[]⟩, .int .u64 0, .slice none 0 0]) 0).run Tryd.prog w = .ok (.int .i64 2) w := fun _ => by kernel_rfl
  have HNM := Lib.hid (ansName_any 6 w6 (HT.out.below HB6.out))
  rw [show ansName 6 = ⟨#[115, 104, 111, 114, 116]⟩ by kernel_rfl] at HNM
  go_wp2_with fail
  refine HNM.out.mono ?_
  rintro e w7 ⟨rfl, h7⟩
  rw [← h7]
  clear h7
  go_wp2
  go_ret
  exact ⟨rfl, HB6.out⟩

set_option maxHeartbeats 8000000 in
set_option maxRecDepth 100000 in
theorem ansTells_any (k v k2 v2 : Int) (key key2 : ByteArray) (ao ao2 : Option Addr) (n c m c2 : Nat) (ps qs : List (ByteArray × Int)) (ok : Bool) (w : World) (hr : RdP w (.slice ao n c) ps) (hr2 : RdP w (.slice ao2 m c2) qs) (hnt : NamesAt17 w) :
    Calls Tryd.prog 3 #[.agg #[.int .i64 k, .string key, .int .u64 v, .slice ao n c], .agg #[.int .i64 k2, .string key2, .int .u64 v2, .slice ao2 m c2], .bool ok] w fun e w' => e = .returned (.bool true) ∧ Below w.heap.size w w' := by
  obtain ⟨W, hW, n1, n2, hB⟩ := bx2 w 25 25 #[.int .i64 k, .string key, .int .u64 v, .slice ao n c] #[.int .i64 k2, .string key2, .int .u64 v2, .slice ao2 m c2]
  have HW := Lib.hid hW
  have HX := Lib.hid hB
  have HN1 := Lib.hid n1
  have HN2 := Lib.hid n2
  have HR := Lib.hid (hr.keep hB)
  have HR2 := Lib.hid (hr2.keep hB)
  have HNT := Lib.hid hnt
  have HL1 := Lib.hid (light17_any k v key ao n c ps W HR.out)
  have a0 : W.cell? ⟨w.heap.size, 0, none⟩ = some (.int .i64 k) := n1.cell 0 rfl
  have a1 : W.cell? ⟨w.heap.size, 1, none⟩ = some (.string key) := n1.cell 1 rfl
  have a2 : W.cell? ⟨w.heap.size, 2, none⟩ = some (.int .u64 v) := n1.cell 2 rfl
  have a3 : W.cell? ⟨w.heap.size, 3, none⟩ = some (.slice ao n c) := n1.cell 3 rfl
  clear n1 n2 hB hW hr hr2 hnt
  go_enter Tryd.func3, Tryd.ntmps3
  go_upto_region 1 with fail
  rw [← HW.out]
  clear HW
  go_wp2_with fail
  refine HL1.out.mono ?_
  rintro e w3 ⟨b1, rfl, hl1, hb3⟩
  have HX3 : Hid (Below w.heap.size w w3) := Lib.hid (below_on17 HX.out (Nat.le_refl _) hb3)
  have HY3 := Lib.hid hb3
  clear a0 a1 a2 a3 HL1 hb3
  cases b1 with
  | false =>
    have HLV := Lib.hid (lives17 w3 (HNT.out.below HX3.out))
    go_wp2_with fail
    refine HLV.out.mono ?_
    rintro e wl ⟨rfl, hbl⟩
    go_wp2
    go_ret
    exact ⟨rfl, HX3.out.trans (hbl.mono HX3.out.size)⟩
  | true =>
  have HS1 := Lib.hid (hl1 rfl)
  have HL2 := Lib.hid (light17_any k2 v2 key2 ao2 m c2 qs w3 (HR2.out.keep HY3.out))
  obtain ⟨b0, b1', b2, b3⟩ : w3.cell? ⟨w.heap.size + 1, 0, none⟩ = some (.int .i64 k2) ∧ w3.cell? ⟨w.heap.size + 1, 1, none⟩ = some (.string key2) ∧ w3.cell? ⟨w.heap.size + 1, 2, none⟩ = some (.int .u64 v2) ∧ w3.cell? ⟨w.heap.size + 1, 3, none⟩ = some (.slice ao2 m c2) := ⟨(HN2.out.below HY3.out).cell 0 rfl, (HN2.out.below HY3.out).cell 1 rfl, (HN2.out.below HY3.out).cell 2 rfl, (HN2.out.below HY3.out).cell 3 rfl⟩
  clear hl1
  go_wp2_with fail
  refine HL2.out.mono ?_
  rintro e w4 ⟨b4, rfl, hl2, hb4⟩
  have HX4 : Hid (Below w.heap.size w w4) := Lib.hid (below_on17 HX3.out (Nat.le_refl _) hb4)
  have HY4 : Hid (Below W.heap.size W w4) := Lib.hid (below_on17 HY3.out (Nat.le_refl _) hb4)
  clear b0 b1' b2 b3 HL2 hb4 HX3 HY3
  cases b4 with
  | false =>
    have HLV := Lib.hid (lives17 w4 (HNT.out.below HX4.out))
    go_wp2_with fail
    refine HLV.out.mono ?_
    rintro e wl ⟨rfl, hbl⟩
    go_wp2
    go_ret
    exact ⟨rfl, HX4.out.trans (hbl.mono HX4.out.size)⟩
  | true =>
  clear hl2
  have HCK := Lib.hid (ansCheck_any k v key ao n c ps w4 (HNT.out.below HX4.out) (HR.out.keep HY4.out))
  obtain ⟨a0, a1, a2, a3⟩ : w4.cell? ⟨w.heap.size, 0, none⟩ = some (.int .i64 k) ∧ w4.cell? ⟨w.heap.size, 1, none⟩ = some (.string key) ∧ w4.cell? ⟨w.heap.size, 2, none⟩ = some (.int .u64 v) ∧ w4.cell? ⟨w.heap.size, 3, none⟩ = some (.slice ao n c) := ⟨(HN1.out.below HY4.out).cell 0 rfl, (HN1.out.below HY4.out).cell 1 rfl, (HN1.out.below HY4.out).cell 2 rfl, (HN1.out.below HY4.out).cell 3 rfl⟩
  obtain ⟨sd, hsd⟩ : ∃ sd, sd = ansSoundB k key ps := ⟨_, rfl⟩
  rw [← hsd] at HCK
  have HSD := Lib.hid (fun W' h => ransSound_any k v key ao n c ps W' h)
  rw [← hsd] at HSD
  clear hsd
  cases sd with
  | false =>
    go_wp2_with fail
    refine HCK.out.mono ?_
    rintro e w5 ⟨rfl, hb5⟩
    have HX5 : Hid (Below w.heap.size w w5) := Lib.hid (below_on17 HX4.out (Nat.le_refl _) hb5)
    have HY5 : Hid (Below W.heap.size W w5) := Lib.hid (below_on17 HY4.out (Nat.le_refl _) hb5)
    clear a0 a1 a2 a3 HCK hb5 HX4 HY4
    have HOF := Lib.hid (ansOf_any key v ok w5)
    obtain ⟨a0, a1, a2, a3⟩ : w5.cell? ⟨w.heap.size, 0, none⟩ = some (.int .i64 k) ∧ w5.cell? ⟨w.heap.size, 1, none⟩ = some (.string key) ∧ w5.cell? ⟨w.heap.size, 2, none⟩ = some (.int .u64 v) ∧ w5.cell? ⟨w.heap.size, 3, none⟩ = some (.slice ao n c) := ⟨(HN1.out.below HY5.out).cell 0 rfl, (HN1.out.below HY5.out).cell 1 rfl, (HN1.out.below HY5.out).cell 2 rfl, (HN1.out.below HY5.out).cell 3 rfl⟩
    obtain ⟨x0, hx0⟩ : ∃ x : Int, x = if ok = true then 1 else 2 := ⟨_, rfl⟩
    obtain ⟨x1, hx1⟩ : ∃ x : ByteArray, x = if ok = true then key else ⟨#[]⟩ := ⟨_, rfl⟩
    obtain ⟨x2, hx2⟩ : ∃ x : Int, x = if ok = true then v else 0 := ⟨_, rfl⟩
    rw [← hx0, ← hx1, ← hx2] at HOF
    have HX0 := Lib.hid hx0
    have HX1 := Lib.hid hx1
    have HX2 := Lib.hid hx2
    clear hx0 hx1 hx2
    go_wp2_with fail
    refine HOF.out.mono ?_
    rintro e w6 ⟨rfl, hb6⟩
    obtain ⟨W6, hW6⟩ : ∃ W, W = w6.alloc (.cells #[.int .i64 x0, .string x1, .int .u64 x2, .slice none 0 0] 25) := ⟨_, rfl⟩
    have hx6 := boxed_below w6 (.cells #[.int .i64 x0, .string x1, .int .u64 x2, .slice none 0 0] 25)
    have n6 := BX.new w6 25 #[.int .i64 x0, .string x1, .int .u64 x2, .slice none 0 0]
    rw [← hW6] at hx6 n6
    have HX6 : Hid (Below w.heap.size w W6) := Lib.hid (below_on17 (below_on17 HX5.out (Nat.le_refl _) hb6) (Nat.le_refl _) hx6)
    have HY6 : Hid (Below W.heap.size W W6) := Lib.hid (below_on17 (below_on17 HY5.out (Nat.le_refl _) hb6) (Nat.le_refl _) hx6)
    have HN6 := Lib.hid n6
    have HW6 := Lib.hid hW6
    clear a0 a1 a2 a3 HOF hb6 HX5 HY5 hx6 n6 hW6
    go_upto_region 5 with fail
    rw [← HW6.out]
    clear HW6
    obtain ⟨g, hg⟩ : ∃ g, g = w6.heap.size := ⟨_, rfl⟩
    rw [← hg] at HN6 ⊢
    clear hg
    have y0 : W6.cell? ⟨g, 0, none⟩ = some (.int .i64 x0) := HN6.out.cell 0 rfl
    have y1 : W6.cell? ⟨g, 1, none⟩ = some (.string x1) := HN6.out.cell 1 rfl
    have y2 : W6.cell? ⟨g, 2, none⟩ = some (.int .u64 x2) := HN6.out.cell 2 rfl
    have y3 : W6.cell? ⟨g, 3, none⟩ = some (.slice none 0 0) := HN6.out.cell 3 rfl
    obtain ⟨a0, a1, a2, a3⟩ : W6.cell? ⟨w.heap.size, 0, none⟩ = some (.int .i64 k) ∧ W6.cell? ⟨w.heap.size, 1, none⟩ = some (.string key) ∧ W6.cell? ⟨w.heap.size, 2, none⟩ = some (.int .u64 v) ∧ W6.cell? ⟨w.heap.size, 3, none⟩ = some (.slice ao n c) := ⟨(HN1.out.below HY6.out).cell 0 rfl, (HN1.out.below HY6.out).cell 1 rfl, (HN1.out.below HY6.out).cell 2 rfl, (HN1.out.below HY6.out).cell 3 rfl⟩
    clear HN6
    go_cut [47] (fun s47 wx => Hid (s47 = .bool false ∧ Below W.heap.size W wx ∧ Below w.heap.size w wx))
    case first =>
      cases ok with
      | true =>
        have hx0 := HX0.out
        have hx1 := HX1.out
        have hx2 := HX2.out
        rw [if_pos rfl] at hx0 hx1 hx2
        have HSX := Lib.hid (ransSame_any x0 x2 1 v x1 key none none 0 0 0 0 [] [] true W6 (rdp_none _) (rdp_none _) ⟨fun _ => ⟨hx0, hx1, hx2, rfl⟩, fun _ => rfl⟩)
        clear hx0 hx1 hx2 HX0 HX1 HX2
        go_wp2_with fail
        refine HSX.out.mono ?_
        rintro e wx ⟨rfl, hb7⟩
        have hwx := And.intro (below_on17 HY6.out (Nat.le_refl _) hb7) (below_on17 HX6.out (Nat.le_refl _) hb7)
        clear hb7 a0 a1 a2 a3 y0 y1 y2 y3
        go_wp2
        go_meet
        exact Lib.hid ⟨rfl, hwx⟩
      | false =>
        have hx0 := HX0.out
        have hx1 := HX1.out
        have hx2 := HX2.out
        rw [if_neg (by decide)] at hx0 hx1 hx2
        have HSX := Lib.hid (ransSame_any x0 x2 2 0 x1 ⟨#[]⟩ none none 0 0 0 0 [] [] true W6 (rdp_none _) (rdp_none _) ⟨fun _ => ⟨hx0, hx1, hx2, rfl⟩, fun _ => rfl⟩)
        clear hx0 hx1 hx2 HX0 HX1 HX2
        go_wp2_with fail
        refine HSX.out.mono ?_
        rintro e wx ⟨rfl, hb7⟩
        have hwx := And.intro (below_on17 HY6.out (Nat.le_refl _) hb7) (below_on17 HX6.out (Nat.le_refl _) hb7)
        clear hb7 a0 a1 a2 a3 y0 y1 y2 y3
        go_wp2
        go_meet
        exact Lib.hid ⟨rfl, hwx⟩
    case rest =>
      obtain ⟨h47, hwx⟩ := hcut.out
      subst h47
      have hwx := Lib.hid hwx
      obtain ⟨wx, hwc⟩ : ∃ W, W = wc := ⟨_, rfl⟩
      subst hwc
      clear hcut a0 a1 a2 a3 y0 y1 y2 y3 HX0 HX1 HX2
      have HY := Lib.hid hwx.out.1
      have HX := Lib.hid hwx.out.2
      clear hwx
      obtain ⟨sb, hsb⟩ := bool_or17 (k = k2 ∧ key = key2 ∧ v = v2 ∧ ps = qs)
      have HSD2 := HSD
      have HSD := Lib.hid (fun W' (h : Below wx.heap.size wx W') => HSD2.out W' (HR.out.keep (below_on17 HY.out (Nat.le_refl _) h)))
      have HSAB := Lib.hid (fun W' (h : Below wx.heap.size wx W') => ansSame_any k v k2 v2 key key2 ao ao2 n c m c2 ps qs sb W' (HR.out.keep (below_on17 HY.out (Nat.le_refl _) h)) (HR2.out.keep (below_on17 HY.out (Nat.le_refl _) h)) hsb)
      have HRAB := Lib.hid (fun W' (h : Below wx.heap.size wx W') => ransSame_any k v k2 v2 key key2 ao ao2 n c m c2 ps qs sb W' (HR.out.keep (below_on17 HY.out (Nat.le_refl _) h)) (HR2.out.keep (below_on17 HY.out (Nat.le_refl _) h)) hsb)
      have HSAA := Lib.hid (fun W' (h : Below wx.heap.size wx W') => ansSame_any k v k v key key ao ao n c n c ps ps true W' (HR.out.keep (below_on17 HY.out (Nat.le_refl _) h)) (HR.out.keep (below_on17 HY.out (Nat.le_refl _) h)) ⟨fun _ => ⟨rfl, rfl, rfl, rfl⟩, fun _ => rfl⟩)
      have HNM := Lib.hid (fun W' (h : Below wx.heap.size wx W') => ansName_any k W' (HNT.out.below (below_on17 HX.out (Nat.le_refl _) h)))
      have HRN := Lib.hid (fun W' => ransName_any k W')
      have HLV := Lib.hid (fun W' (h : Below wx.heap.size wx W') => lives17 W' (HNT.out.below (below_on17 HX.out (Nat.le_refl _) h)))
      generalize ansName k = nm at *
      have HCC : Hid (∀ V, Below wx.heap.size wx V → ((V.cell? ⟨w.heap.size, 0, none⟩ = some (.int .i64 k) ∧ V.cell? ⟨w.heap.size, 1, none⟩ = some (.string key) ∧ V.cell? ⟨w.heap.size, 2, none⟩ = some (.int .u64 v) ∧ V.cell? ⟨w.heap.size, 3, none⟩ = some (.slice ao n c)) ∧ (V.cell? ⟨w.heap.size + 1, 0, none⟩ = some (.int .i64 k2) ∧ V.cell? ⟨w.heap.size + 1, 1, none⟩ = some (.string key2) ∧ V.cell? ⟨w.heap.size + 1, 2, none⟩ = some (.int .u64 v2) ∧ V.cell? ⟨w.heap.size + 1, 3, none⟩ = some (.slice ao2 m c2))) ∧ Below wx.heap.size wx V) := Lib.hid (fun V hb => by
        have h1 : BX V w.heap.size 25 #[.int .i64 k, .string key, .int .u64 v, .slice ao n c] := HN1.out.below (below_on17 HY.out (Nat.le_refl _) hb)
        have h2 : BX V (w.heap.size + 1) 25 #[.int .i64 k2, .string key2, .int .u64 v2, .slice ao2 m c2] := HN2.out.below (below_on17 HY.out (Nat.le_refl _) hb)
        exact ⟨⟨⟨h1.cell 0 rfl, h1.cell 1 rfl, h1.cell 2 rfl, h1.cell 3 rfl⟩, ⟨h2.cell 0 rfl, h2.cell 1 rfl, h2.cell 2 rfl, h2.cell 3 rfl⟩⟩, hb⟩)
      have hS0 := HCC.out wx.drew (Below.refl _ _).drew
      clear hsb HSD2 HS1
      all_goals
        go_wp2_with fail
        first | (go_region_held_law (fun V => ((V.cell? ⟨w.heap.size, 0, none⟩ = some (.int .i64 k) ∧ V.cell? ⟨w.heap.size, 1, none⟩ = some (.string key) ∧ V.cell? ⟨w.heap.size, 2, none⟩ = some (.int .u64 v) ∧ V.cell? ⟨w.heap.size, 3, none⟩ = some (.slice ao n c)) ∧ (V.cell? ⟨w.heap.size + 1, 0, none⟩ = some (.int .i64 k2) ∧ V.cell? ⟨w.heap.size + 1, 1, none⟩ = some (.string key2) ∧ V.cell? ⟨w.heap.size + 1, 2, none⟩ = some (.int .u64 v2) ∧ V.cell? ⟨w.heap.size + 1, 3, none⟩ = some (.slice ao2 m c2))) ∧ Below wx.heap.size wx V)
          (first | (with_reducible exact hS0) | (with_reducible assumption))
          (first
          | (go_at_call 10; (with_reducible refine (HSD.out _ (And.right (by assumption))).mono ?_); rintro e w5 ⟨rfl, hb5⟩; have hS5 := HCC.out _ (below_on17 (And.right (by assumption)) (Nat.le_refl _) hb5); clear hb5)
          | (go_at_call 11; (with_reducible refine (HSAB.out _ (And.right (by assumption))).mono ?_); rintro e w7 ⟨rfl, hb7⟩; have hS7 := HCC.out _ (below_on17 (And.right (by assumption)) (Nat.le_refl _) hb7); clear hb7)
          | (go_at_call 11; (with_reducible refine (HSAA.out _ (And.right (by assumption))).mono ?_); rintro e w8 ⟨rfl, hb8⟩; have hS8 := HCC.out _ (below_on17 (And.right (by assumption)) (Nat.le_refl _) hb8); clear hb8)
          | (go_at_call 9; (with_reducible refine (HRAB.out _ (And.right (by assumption))).mono ?_); rintro e w9 ⟨rfl, hb9⟩; have hS9 := HCC.out _ (below_on17 (And.right (by assumption)) (Nat.le_refl _) hb9); clear hb9)
          | (go_at_call 12; (with_reducible refine (HNM.out _ (And.right (by assumption))).mono ?_); rintro e w10 ⟨rfl, h10⟩; rw [← h10]; clear h10)
          | (go_at_call 13; (with_reducible refine (HRN.out _).mono ?_); rintro e w11 ⟨rfl, hb11⟩; have hS11 := HCC.out _ (below_on17 (And.right (by assumption)) (Nat.le_refl _) hb11); clear hb11)
          | (go_at_call 6; (with_reducible refine (HLV.out _ (And.right (by assumption))).mono ?_); rintro e w12 ⟨rfl, hb12⟩; have hB12 : Below wx.heap.size wx w12 := below_on17 (And.right (by assumption)) (Nat.le_refl _) hb12; have hS12 := HCC.out _ hB12; clear hb12))) | fail
        all_goals
          go_wp2
          go_ret
          exact ⟨rfl, below_on17 HX.out (Nat.le_refl _) hB12⟩
  | true =>
    go_wp2_with fail
    refine HCK.out.mono ?_
    rintro e w5 ⟨rfl, hb5⟩
    have HX5 : Hid (Below w.heap.size w w5) := Lib.hid (below_on17 HX4.out (Nat.le_refl _) hb5)
    have HY5 : Hid (Below W.heap.size W w5) := Lib.hid (below_on17 HY4.out (Nat.le_refl _) hb5)
    clear a0 a1 a2 a3 HCK hb5 HX4 HY4
    have HOF := Lib.hid (ansOf_any key v ok w5)
    obtain ⟨a0, a1, a2, a3⟩ : w5.cell? ⟨w.heap.size, 0, none⟩ = some (.int .i64 k) ∧ w5.cell? ⟨w.heap.size, 1, none⟩ = some (.string key) ∧ w5.cell? ⟨w.heap.size, 2, none⟩ = some (.int .u64 v) ∧ w5.cell? ⟨w.heap.size, 3, none⟩ = some (.slice ao n c) := ⟨(HN1.out.below HY5.out).cell 0 rfl, (HN1.out.below HY5.out).cell 1 rfl, (HN1.out.below HY5.out).cell 2 rfl, (HN1.out.below HY5.out).cell 3 rfl⟩
    obtain ⟨x0, hx0⟩ : ∃ x : Int, x = if ok = true then 1 else 2 := ⟨_, rfl⟩
    obtain ⟨x1, hx1⟩ : ∃ x : ByteArray, x = if ok = true then key else ⟨#[]⟩ := ⟨_, rfl⟩
    obtain ⟨x2, hx2⟩ : ∃ x : Int, x = if ok = true then v else 0 := ⟨_, rfl⟩
    rw [← hx0, ← hx1, ← hx2] at HOF
    have HX0 := Lib.hid hx0
    have HX1 := Lib.hid hx1
    have HX2 := Lib.hid hx2
    clear hx0 hx1 hx2
    go_wp2_with fail
    refine HOF.out.mono ?_
    rintro e w6 ⟨rfl, hb6⟩
    obtain ⟨W6, hW6⟩ : ∃ W, W = w6.alloc (.cells #[.int .i64 x0, .string x1, .int .u64 x2, .slice none 0 0] 25) := ⟨_, rfl⟩
    have hx6 := boxed_below w6 (.cells #[.int .i64 x0, .string x1, .int .u64 x2, .slice none 0 0] 25)
    have n6 := BX.new w6 25 #[.int .i64 x0, .string x1, .int .u64 x2, .slice none 0 0]
    rw [← hW6] at hx6 n6
    have HX6 : Hid (Below w.heap.size w W6) := Lib.hid (below_on17 (below_on17 HX5.out (Nat.le_refl _) hb6) (Nat.le_refl _) hx6)
    have HY6 : Hid (Below W.heap.size W W6) := Lib.hid (below_on17 (below_on17 HY5.out (Nat.le_refl _) hb6) (Nat.le_refl _) hx6)
    have HN6 := Lib.hid n6
    have HW6 := Lib.hid hW6
    clear a0 a1 a2 a3 HOF hb6 HX5 HY5 hx6 n6 hW6
    go_upto_region 5 with fail
    rw [← HW6.out]
    clear HW6
    obtain ⟨g, hg⟩ : ∃ g, g = w6.heap.size := ⟨_, rfl⟩
    rw [← hg] at HN6 ⊢
    clear hg
    have y0 : W6.cell? ⟨g, 0, none⟩ = some (.int .i64 x0) := HN6.out.cell 0 rfl
    have y1 : W6.cell? ⟨g, 1, none⟩ = some (.string x1) := HN6.out.cell 1 rfl
    have y2 : W6.cell? ⟨g, 2, none⟩ = some (.int .u64 x2) := HN6.out.cell 2 rfl
    have y3 : W6.cell? ⟨g, 3, none⟩ = some (.slice none 0 0) := HN6.out.cell 3 rfl
    obtain ⟨a0, a1, a2, a3⟩ : W6.cell? ⟨w.heap.size, 0, none⟩ = some (.int .i64 k) ∧ W6.cell? ⟨w.heap.size, 1, none⟩ = some (.string key) ∧ W6.cell? ⟨w.heap.size, 2, none⟩ = some (.int .u64 v) ∧ W6.cell? ⟨w.heap.size, 3, none⟩ = some (.slice ao n c) := ⟨(HN1.out.below HY6.out).cell 0 rfl, (HN1.out.below HY6.out).cell 1 rfl, (HN1.out.below HY6.out).cell 2 rfl, (HN1.out.below HY6.out).cell 3 rfl⟩
    clear HN6
    go_cut [47] (fun s47 wx => Hid (s47 = .bool false ∧ Below W.heap.size W wx ∧ Below w.heap.size w wx))
    case first =>
      cases ok with
      | true =>
        have hx0 := HX0.out
        have hx1 := HX1.out
        have hx2 := HX2.out
        rw [if_pos rfl] at hx0 hx1 hx2
        have HSX := Lib.hid (ransSame_any x0 x2 1 v x1 key none none 0 0 0 0 [] [] true W6 (rdp_none _) (rdp_none _) ⟨fun _ => ⟨hx0, hx1, hx2, rfl⟩, fun _ => rfl⟩)
        clear hx0 hx1 hx2 HX0 HX1 HX2
        go_wp2_with fail
        refine HSX.out.mono ?_
        rintro e wx ⟨rfl, hb7⟩
        have hwx := And.intro (below_on17 HY6.out (Nat.le_refl _) hb7) (below_on17 HX6.out (Nat.le_refl _) hb7)
        clear hb7 a0 a1 a2 a3 y0 y1 y2 y3
        go_wp2
        go_meet
        exact Lib.hid ⟨rfl, hwx⟩
      | false =>
        have hx0 := HX0.out
        have hx1 := HX1.out
        have hx2 := HX2.out
        rw [if_neg (by decide)] at hx0 hx1 hx2
        have HSX := Lib.hid (ransSame_any x0 x2 2 0 x1 ⟨#[]⟩ none none 0 0 0 0 [] [] true W6 (rdp_none _) (rdp_none _) ⟨fun _ => ⟨hx0, hx1, hx2, rfl⟩, fun _ => rfl⟩)
        clear hx0 hx1 hx2 HX0 HX1 HX2
        go_wp2_with fail
        refine HSX.out.mono ?_
        rintro e wx ⟨rfl, hb7⟩
        have hwx := And.intro (below_on17 HY6.out (Nat.le_refl _) hb7) (below_on17 HX6.out (Nat.le_refl _) hb7)
        clear hb7 a0 a1 a2 a3 y0 y1 y2 y3
        go_wp2
        go_meet
        exact Lib.hid ⟨rfl, hwx⟩
    case rest =>
      obtain ⟨h47, hwx⟩ := hcut.out
      subst h47
      have hwx := Lib.hid hwx
      obtain ⟨wx, hwc⟩ : ∃ W, W = wc := ⟨_, rfl⟩
      subst hwc
      clear hcut a0 a1 a2 a3 y0 y1 y2 y3 HX0 HX1 HX2
      have HY := Lib.hid hwx.out.1
      have HX := Lib.hid hwx.out.2
      clear hwx
      obtain ⟨sb, hsb⟩ := bool_or17 (k = k2 ∧ key = key2 ∧ v = v2 ∧ ps = qs)
      have HSD2 := HSD
      have HSD := Lib.hid (fun W' (h : Below wx.heap.size wx W') => HSD2.out W' (HR.out.keep (below_on17 HY.out (Nat.le_refl _) h)))
      have HSAB := Lib.hid (fun W' (h : Below wx.heap.size wx W') => ansSame_any k v k2 v2 key key2 ao ao2 n c m c2 ps qs sb W' (HR.out.keep (below_on17 HY.out (Nat.le_refl _) h)) (HR2.out.keep (below_on17 HY.out (Nat.le_refl _) h)) hsb)
      have HRAB := Lib.hid (fun W' (h : Below wx.heap.size wx W') => ransSame_any k v k2 v2 key key2 ao ao2 n c m c2 ps qs sb W' (HR.out.keep (below_on17 HY.out (Nat.le_refl _) h)) (HR2.out.keep (below_on17 HY.out (Nat.le_refl _) h)) hsb)
      have HSAA := Lib.hid (fun W' (h : Below wx.heap.size wx W') => ansSame_any k v k v key key ao ao n c n c ps ps true W' (HR.out.keep (below_on17 HY.out (Nat.le_refl _) h)) (HR.out.keep (below_on17 HY.out (Nat.le_refl _) h)) ⟨fun _ => ⟨rfl, rfl, rfl, rfl⟩, fun _ => rfl⟩)
      have HNM := Lib.hid (fun W' (h : Below wx.heap.size wx W') => ansName_any k W' (HNT.out.below (below_on17 HX.out (Nat.le_refl _) h)))
      have HRN := Lib.hid (fun W' => ransName_any k W')
      have HLV := Lib.hid (fun W' (h : Below wx.heap.size wx W') => lives17 W' (HNT.out.below (below_on17 HX.out (Nat.le_refl _) h)))
      generalize ansName k = nm at *
      have HCC : Hid (∀ V, Below wx.heap.size wx V → ((V.cell? ⟨w.heap.size, 0, none⟩ = some (.int .i64 k) ∧ V.cell? ⟨w.heap.size, 1, none⟩ = some (.string key) ∧ V.cell? ⟨w.heap.size, 2, none⟩ = some (.int .u64 v) ∧ V.cell? ⟨w.heap.size, 3, none⟩ = some (.slice ao n c)) ∧ (V.cell? ⟨w.heap.size + 1, 0, none⟩ = some (.int .i64 k2) ∧ V.cell? ⟨w.heap.size + 1, 1, none⟩ = some (.string key2) ∧ V.cell? ⟨w.heap.size + 1, 2, none⟩ = some (.int .u64 v2) ∧ V.cell? ⟨w.heap.size + 1, 3, none⟩ = some (.slice ao2 m c2))) ∧ Below wx.heap.size wx V) := Lib.hid (fun V hb => by
        have h1 : BX V w.heap.size 25 #[.int .i64 k, .string key, .int .u64 v, .slice ao n c] := HN1.out.below (below_on17 HY.out (Nat.le_refl _) hb)
        have h2 : BX V (w.heap.size + 1) 25 #[.int .i64 k2, .string key2, .int .u64 v2, .slice ao2 m c2] := HN2.out.below (below_on17 HY.out (Nat.le_refl _) hb)
        exact ⟨⟨⟨h1.cell 0 rfl, h1.cell 1 rfl, h1.cell 2 rfl, h1.cell 3 rfl⟩, ⟨h2.cell 0 rfl, h2.cell 1 rfl, h2.cell 2 rfl, h2.cell 3 rfl⟩⟩, hb⟩)
      have hS0 := HCC.out wx.drew (Below.refl _ _).drew
      clear hsb HSD2 HS1
      all_goals
        go_wp2_with fail
        first | (go_region_held_law (fun V => ((V.cell? ⟨w.heap.size, 0, none⟩ = some (.int .i64 k) ∧ V.cell? ⟨w.heap.size, 1, none⟩ = some (.string key) ∧ V.cell? ⟨w.heap.size, 2, none⟩ = some (.int .u64 v) ∧ V.cell? ⟨w.heap.size, 3, none⟩ = some (.slice ao n c)) ∧ (V.cell? ⟨w.heap.size + 1, 0, none⟩ = some (.int .i64 k2) ∧ V.cell? ⟨w.heap.size + 1, 1, none⟩ = some (.string key2) ∧ V.cell? ⟨w.heap.size + 1, 2, none⟩ = some (.int .u64 v2) ∧ V.cell? ⟨w.heap.size + 1, 3, none⟩ = some (.slice ao2 m c2))) ∧ Below wx.heap.size wx V)
          (first | (with_reducible exact hS0) | (with_reducible assumption))
          (first
          | (go_at_call 10; (with_reducible refine (HSD.out _ (And.right (by assumption))).mono ?_); rintro e w5 ⟨rfl, hb5⟩; have hS5 := HCC.out _ (below_on17 (And.right (by assumption)) (Nat.le_refl _) hb5); clear hb5)
          | (go_at_call 11; (with_reducible refine (HSAB.out _ (And.right (by assumption))).mono ?_); rintro e w7 ⟨rfl, hb7⟩; have hS7 := HCC.out _ (below_on17 (And.right (by assumption)) (Nat.le_refl _) hb7); clear hb7)
          | (go_at_call 11; (with_reducible refine (HSAA.out _ (And.right (by assumption))).mono ?_); rintro e w8 ⟨rfl, hb8⟩; have hS8 := HCC.out _ (below_on17 (And.right (by assumption)) (Nat.le_refl _) hb8); clear hb8)
          | (go_at_call 9; (with_reducible refine (HRAB.out _ (And.right (by assumption))).mono ?_); rintro e w9 ⟨rfl, hb9⟩; have hS9 := HCC.out _ (below_on17 (And.right (by assumption)) (Nat.le_refl _) hb9); clear hb9)
          | (go_at_call 12; (with_reducible refine (HNM.out _ (And.right (by assumption))).mono ?_); rintro e w10 ⟨rfl, h10⟩; rw [← h10]; clear h10)
          | (go_at_call 13; (with_reducible refine (HRN.out _).mono ?_); rintro e w11 ⟨rfl, hb11⟩; have hS11 := HCC.out _ (below_on17 (And.right (by assumption)) (Nat.le_refl _) hb11); clear hb11)
          | (go_at_call 6; (with_reducible refine (HLV.out _ (And.right (by assumption))).mono ?_); rintro e w12 ⟨rfl, hb12⟩; have hB12 : Below wx.heap.size wx w12 := below_on17 (And.right (by assumption)) (Nat.le_refl _) hb12; have hS12 := HCC.out _ hB12; clear hb12))) | fail
        all_goals
          go_wp2
          go_ret
          exact ⟨rfl, below_on17 HX.out (Nat.le_refl _) hB12⟩
end Go.Proofs.YtgckgagnodkhjaaRRRRDoor
