/- The law InnerBack, walked: each makes a sound node of a sound one, of the same range; what was posted, and dropped, leaves what was there. Condition: the node's rows are there. -/
import Derived.Test.YtjojfkddgdpnlaaInnerTurnsW
import Derived.Test.YtjojfkddgdpnlaaNodeSameOps
namespace Go.Proofs.Ytjojfkddgdpnlaa
open Go.RowKit

def Nod.FitN (n : Nod) : Prop := Fit n.lo n.hi n.ks n.ks.length n.vs.length n.cs.length
/-- What is so of a node with an entry more. -/
structure Nod.AfterPost (n A : Nod) (kid fan : Int) : Prop where
  inner : A.Inner
  sound : A.Sound fan
  fit : A.FitN
  first : ∃ pa : Nat, FirstAt A.cs.length A.cs kid pa ∧ A.DropP pa ∧ A.drop pa = n
structure Nod.AfterDrop (n C : Nod) (fan : Int) : Prop where
  sound : C.Sound fan
  fit : C.FitN
  less : C.cs.length + 1 = n.cs.length
structure Nod.AfterTurn (n D : Nod) (a : Nat) (fan : Int) : Prop where
  sound : D.Sound fan
  fit : D.FitN
  at_ : a < n.ks.length
  turn : D.TurnP a (nth n.ks a)
  back : D.turn a (nth n.ks a) = n
theorem post_after {n : Nod} {low : ByteArray} {kid fan : Int} (hn : n.PostP low kid fan) (hf : n.FitN) (h2 : n.ks.length ≤ 200 ∧ n.vs.length ≤ 200 ∧ n.cs.length ≤ 200) (hk : low.size ≤ 140737488355328) : n.AfterPost (n.post low kid) kid fan := by
  obtain ⟨hI, hF, hS⟩ := hn
  have hl : n.lv ≠ 0 := by have := hI.1; omega
  have hd := (n.post_iff low kid fan).1 ⟨hI, hF, hS⟩
  have hle : placeF n.ks low ≤ n.ks.length := (edge_place hI.2.keys.rise low).1
  have hpos := n.new_pos hl hI.2 hd.inn (newAt_less hI.2.keys.rise (fun i hi => (hd.new i hi).1))
  have hA : (n.post low kid).Inner := ⟨hI.1, hS.mono hF.2⟩
  have hlk : (n.post low kid).ks.length = n.ks.length + 1 := insF_len hle low
  obtain ⟨e1, _⟩ := hI.2.entries.inner hl
  have hlc : (n.post low kid).cs.length = n.cs.length + 1 := insF_len (by omega) kid
  refine ⟨hA, hS, ⟨hf.lo, hf.hi, fun x hx => ?_, by rw [hlk]; omega, by show 0 ≤ _; omega, by rw [hlc]; omega⟩, _, first_ins hl hI.2 hle (fun i hi => (hd.new i hi).2), (Nod.drop_iff _ _).2 ⟨hA, by omega, by rw [hlk]; omega⟩, n.post_drop hl hI.2 hle⟩
  have hx' : x ∈ insF n.ks (placeF n.ks low) low := hx
  unfold insF at hx'
  rcases List.mem_append.1 hx' with h | h
  · exact hf.ks x (List.mem_of_mem_take h)
  · rcases List.mem_cons.1 h with rfl | h
    · exact hk
    · exact hf.ks x (List.mem_of_mem_drop h)
theorem drop_after {n : Nod} {at_ fan : Int} (hn : n.DropP at_) (hs : n.Sound fan) (hf : n.FitN) (h2 : n.ks.length ≤ 200 ∧ n.vs.length ≤ 200 ∧ n.cs.length ≤ 200) : n.AfterDrop (n.drop at_.toNat) fan := by
  obtain ⟨hI, hA, _⟩ := hn
  have hl : n.lv ≠ 0 := by have := hI.1; omega
  obtain ⟨e1, _⟩ := hI.2.entries.inner hl
  have hlk : (n.drop at_.toNat).ks.length = n.ks.length - 1 := cutF_len (by omega)
  have hlc : (n.drop at_.toNat).cs.length = n.cs.length - 1 := cutF_len (by omega)
  refine ⟨Nod.drop_sound hl hs (by omega) (by omega), ⟨hf.lo, hf.hi, fun x hx => ?_, by rw [hlk]; omega, by show 0 ≤ _; omega, by rw [hlc]; omega⟩, by rw [hlc]; omega⟩
  have hx' : x ∈ cutF n.ks at_.toNat := hx
  unfold cutF at hx'
  rcases List.mem_append.1 hx' with h | h
  · exact hf.ks x (List.mem_of_mem_take h)
  · exact hf.ks x (List.mem_of_mem_drop h)
theorem turn_after {n : Nod} {a : Nat} {low : ByteArray} {fan : Int} (hn : n.TurnP a low) (hs : n.Sound fan) (hf : n.FitN) (h2 : n.ks.length ≤ 200 ∧ n.vs.length ≤ 200 ∧ n.cs.length ≤ 200) (hk : low.size ≤ 140737488355328) : n.AfterTurn (n.turn a low) a fan := by
  obtain ⟨hI, hA, hS⟩ := hn
  have hl : n.lv ≠ 0 := by have := hI.1; omega
  rw [Int.toNat_natCast] at hS
  have ha : a < n.ks.length := by omega
  have hlk : (n.turn a low).ks.length = n.ks.length := List.length_set
  have hm := hs.keys.many
  have hb := n.turn_back (low := low) hl hI.2 ha
  refine ⟨⟨hS.level, hS.range, ⟨by rw [hlk]; exact hm, hS.keys.rise, hS.keys.inn⟩, hS.entries⟩, ⟨hf.lo, hf.hi, fun x hx => ?_, by rw [hlk]; omega, by show 0 ≤ _; omega, by show n.cs.length ≤ _; omega⟩, ha, ⟨⟨hI.1, hS⟩, by rw [hlk]; exact hA, ?_⟩, hb⟩
  · rcases List.mem_or_eq_of_mem_set (show x ∈ n.ks.set a low from hx) with h | rfl
    · exact hf.ks x h
    · exact hk
  · rw [Int.toNat_natCast, hb]; exact hI.2

theorem NB.drew8 {W : World} {g : Nat} {cs : Array Value} (h : NB W g cs) : NB W.drew g cs := h
/-- What was told, in a box. -/
def InBox (w wx : World) (s : Value) (E : Nod) : Prop :=
  ∃ (g : Nat) (ak0 av0 ac0 : Option Addr) (ck0 cv0 cc0 : Nat), s = .pointer (some ⟨g, 0, none⟩) ∧ NB wx g #[.int .i64 E.lv, .string E.lo, .string E.hi, .bool E.la, .int .i64 E.nx, .slice ak0 E.ks.length ck0, .slice av0 E.vs.length cv0, .slice ac0 E.cs.length cc0] ∧ NdAt wx ak0 av0 ac0 E.ks.length ck0 E.vs.length cv0 E.cs.length cc0 E.ks E.vs E.cs ∧ Below w.heap.size w wx
theorem inBox_new {w w8 : World} {E : Nod} {ak0 av0 ac0 : Option Addr} {ck0 cv0 cc0 : Nat} (hnd : NdAt w8 ak0 av0 ac0 E.ks.length ck0 E.vs.length cv0 E.cs.length cc0 E.ks E.vs E.cs) (hb : Below w.heap.size w w8) :
    InBox w (w8.alloc (.cells #[.int .i64 E.lv, .string E.lo, .string E.hi, .bool E.la, .int .i64 E.nx, .slice ak0 E.ks.length ck0, .slice av0 E.vs.length cv0, .slice ac0 E.cs.length cc0] 26)) (.pointer (some ⟨w8.heap.size, 0, none⟩)) E :=
  ⟨w8.heap.size, ak0, av0, ac0, ck0, cv0, cc0, rfl, NB.new _ _, hnd.keep (boxed_below _ _), hb.alloc hb.size _⟩
theorem inBox_of {w w8 : World} {E : Nod} {B g : Nat} {ak0 av0 ac0 : Option Addr} {ck0 cv0 cc0 : Nat} (hg : NB w8 g #[.int .i64 0, .string ⟨#[]⟩, .string ⟨#[]⟩, .bool false, .int .i64 0, .slice none 0 0, .slice none 0 0, .slice none 0 0]) (h0 : w.heap.size ≤ g) (hB : g < B) (hnd : NdAt w8 ak0 av0 ac0 E.ks.length ck0 E.vs.length cv0 E.cs.length cc0 E.ks E.vs E.cs) (f1 : Far B ak0) (f2 : Far B av0) (f3 : Far B ac0) (hb : Below w.heap.size w w8) :
    InBox w ((((((((w8.setCell ⟨g, 0, none⟩ (.int .i64 E.lv)).setCell ⟨g, 1, none⟩ (.string E.lo)).setCell ⟨g, 2, none⟩ (.string E.hi)).setCell ⟨g, 3, none⟩ (.bool E.la)).setCell ⟨g, 4, none⟩ (.int .i64 E.nx)).setCell ⟨g, 5, none⟩ (.slice ak0 E.ks.length ck0)).setCell ⟨g, 6, none⟩ (.slice av0 E.vs.length cv0)).setCell ⟨g, 7, none⟩ (.slice ac0 E.cs.length cc0)) (.pointer (some ⟨g, 0, none⟩)) E := by
  show InBox w (wr5 w8 g [(0, .int .i64 E.lv), (1, .string E.lo), (2, .string E.hi), (3, .bool E.la), (4, .int .i64 E.nx), (5, .slice ak0 E.ks.length ck0), (6, .slice av0 E.vs.length cv0), (7, .slice ac0 E.cs.length cc0)]) (.pointer (some ⟨g, 0, none⟩)) E
  have ho : ∀ k, B ≤ k → (wr5 w8 g [(0, .int .i64 E.lv), (1, .string E.lo), (2, .string E.hi), (3, .bool E.la), (4, .int .i64 E.nx), (5, .slice ak0 E.ks.length ck0), (6, .slice av0 E.vs.length cv0), (7, .slice ac0 E.cs.length cc0)]).heap[k]? = w8.heap[k]? := fun k hk => wr5_far g k (by omega) _ _
  exact ⟨g, ak0, av0, ac0, ck0, cv0, cc0, rfl, wr8 hg _ _ _ _ _ _ _ _, ⟨hnd.k.off f1 ho, hnd.v.off f2 ho, hnd.c.off f3 ho⟩, wr5_below g w.heap.size h0 _ _ _ hb⟩

set_option maxHeartbeats 16000000 in
set_option maxRecDepth 100000 in
theorem innerBack_any (lv nx : Int) (lo hi : ByteArray) (la : Bool) (ak av ac : Option Addr) (ck cv cc : Nat) (ks : List ByteArray) (vs : List Nat) (cs : List Int) (low : ByteArray) (kid at_ fan : Int) (w : World) (hN : NdAt w ak av ac ks.length ck vs.length cv cs.length cc ks vs cs) :
    Calls Try.prog 4 #[.agg #[.int .i64 lv, .string lo, .string hi, .bool la, .int .i64 nx, .slice ak ks.length ck, .slice av vs.length cv, .slice ac cs.length cc], .string low, .int .i64 kid, .int .i64 at_, .int .i64 fan] w fun e w' => e = .returned (.bool true) ∧ Below w.heap.size w w' := by
  have HB := Lib.hid (boxed_below w (.cells #[.int .i64 lv, .string lo, .string hi, .bool la, .int .i64 nx, .slice ak ks.length ck, .slice av vs.length cv, .slice ac cs.length cc] 26))
  have HNB := Lib.hid (NB.new w #[.int .i64 lv, .string lo, .string hi, .bool la, .int .i64 nx, .slice ak ks.length ck, .slice av vs.length cv, .slice ac cs.length cc])
  have HND := Lib.hid (hN.keep HB.out)
  obtain ⟨w1, hw1⟩ : ∃ w1, w1 = w.alloc (.cells #[.int .i64 lv, .string lo, .string hi, .bool la, .int .i64 nx, .slice ak ks.length ck, .slice av vs.length cv, .slice ac cs.length cc] 26) := ⟨_, rfl⟩
  rw [← hw1] at HB HNB HND
  have HW1 := Lib.hid hw1
  have HL := Lib.hid (nlight_any lv nx lo hi la ak av ac ks.length ck vs.length cv cs.length cc ks w1 HND.out.k (by have := rd_len hN.v; omega) (by have := rd_len hN.c; omega))
  have HLV := Lib.hid lives12_any
  obtain ⟨q0, q1, q2, q3, q4, q5, q6, q7⟩ := HNB.out.cells
  clear hN hw1
  go_enter Try.func4, Try.ntmps4
  go_wp2_with fail
  rw [← HW1.out]
  refine HL.out.mono ?_
  rintro e w2 ⟨r, rfl, hr, hb2⟩
  have HP := Lib.hid hr
  have Hn := Lib.hid hb2
  clear hr hb2 q0 q1 q2 q3 q4 q5 q6 q7 HL HW1
  obtain ⟨q0, q1, q2, q3, q4, q5, q6, q7⟩ := (HNB.out.below Hn.out).cells
  cases r with
  | false =>
    have HE := Lib.hid (HB.out.trans (Hn.out.mono HB.out.size))
    go_wp2_with fail
    refine (HLV.out _).mono ?_
    rintro e wl ⟨rfl, hbl⟩
    have HBL := Lib.hid (HE.out.trans (hbl.mono HE.out.size))
    clear hbl
    go_wp2
    go_ret
    exact ⟨rfl, HBL.out⟩
  | true =>
  have HLP := Lib.hid (HP.out.1 rfl)
  have HFT := Lib.hid (fit_light12 HLP.out)
  by_cases hk : 100 < low.size
  · have hk2 : (100 : Int) < low.size := by omega
    have HE := Lib.hid (HB.out.trans (Hn.out.mono HB.out.size))
    go_wp2_with fail
    refine (HLV.out _).mono ?_
    rintro e wl ⟨rfl, hbl⟩
    have HBL := Lib.hid (HE.out.trans (hbl.mono HE.out.size))
    clear hbl
    go_wp2
    go_ret
    exact ⟨rfl, HBL.out⟩
  have hk2 : (low.size : Int) ≤ 100 := by omega
  have hks : low.size ≤ 140737488355328 := by omega
  obtain ⟨cb, hcb⟩ := bool_or ((4 ≤ fan ∧ fan ≤ 64) ∧ SoundP lv nx lo hi la ks.length vs.length cs.length ks cs fan)
  have HCK := Lib.hid (check_of lv nx lo hi la ak av ac ks.length ck vs.length cv cs.length cc ks vs cs fan cb w2 (HND.out.keep Hn.out) HFT.out hcb)
  have HCB := Lib.hid hcb
  clear hcb
  go_wp2_with fail
  refine HCK.out.mono ?_
  rintro e w3 ⟨c0, rfl, _, hc0, hb3⟩
  have H3 := Lib.hid (Hn.out.trans (hb3.mono Hn.out.size))
  clear hb3 q0 q1 q2 q3 q4 q5 q6 q7 HCK
  obtain ⟨q0, q1, q2, q3, q4, q5, q6, q7⟩ := (HNB.out.below H3.out).cells
  cases cb with
  | false =>
    have HE := Lib.hid (HB.out.trans (H3.out.mono HB.out.size))
    go_wp2_with fail
    refine (HLV.out _).mono ?_
    rintro e wl ⟨rfl, hbl⟩
    have HBL := Lib.hid (HE.out.trans (hbl.mono HE.out.size))
    clear hbl
    go_wp2
    go_ret
    exact ⟨rfl, HBL.out⟩
  | true =>
  have HS := Lib.hid (HCB.out.1 rfl)
  by_cases h0 : lv = 0
  · have h0b : (lv == 0) = true := by rw [beq_iff_eq]; exact h0
    have HE := Lib.hid (HB.out.trans (H3.out.mono HB.out.size))
    go_wp2_with fail
    refine (HLV.out _).mono ?_
    rintro e wl ⟨rfl, hbl⟩
    have HBL := Lib.hid (HE.out.trans (hbl.mono HE.out.size))
    clear hbl
    go_wp2
    go_ret
    exact ⟨rfl, HBL.out⟩
  have h0b : (lv == 0) = false := beq_eq_false_iff_ne.2 h0
  have HSN : Hid ((⟨lv, nx, lo, hi, la, ks, vs, cs⟩ : Nod).Sound fan) := Lib.hid HS.out.2
  have HIN : Hid ((⟨lv, nx, lo, hi, la, ks, vs, cs⟩ : Nod).Inner) := Lib.hid ⟨by have := HS.out.2.level; simp only; omega, HSN.out.mono (by have := HS.out.1; omega)⟩
  have H200 : Hid (ks.length ≤ 200 ∧ vs.length ≤ 200 ∧ cs.length ≤ 200) := Lib.hid (by have := HLP.out.n; omega)
  obtain ⟨b, hb⟩ := bool_or ((⟨lv, nx, lo, hi, la, ks, vs, cs⟩ : Nod).PostP low kid fan)
  obtain ⟨c, hc⟩ := bool_or ((⟨lv, nx, lo, hi, la, ks, vs, cs⟩ : Nod).DropP at_)
  obtain ⟨d, hd⟩ := bool_or ((⟨lv, nx, lo, hi, la, ks, vs, cs⟩ : Nod).TurnP at_ low)
  have HPO := Lib.hid (fun W (h : Below w1.heap.size w1 W) => post_of lv nx lo hi la ak av ac ck cv cc ks vs cs low kid fan b W (HND.out.keep h) HFT.out hks hb)
  have HDR := Lib.hid (fun W (h : Below w1.heap.size w1 W) => idrop_of lv nx lo hi la ak av ac ck cv cc ks vs cs at_ c W (HND.out.keep h) HFT.out hc)
  have HTU := Lib.hid (fun W (h : Below w1.heap.size w1 W) => iturn_of lv nx lo hi la ak av ac ck cv cc ks vs cs at_ low d W (HND.out.keep h) HFT.out hks hd)
  have HAP : Hid (b = true → (⟨lv, nx, lo, hi, la, ks, vs, cs⟩ : Nod).AfterPost ((⟨lv, nx, lo, hi, la, ks, vs, cs⟩ : Nod).post low kid) kid fan) := Lib.hid (fun h => post_after (hb.1 h) HFT.out H200.out hks)
  have HAD : Hid (c = true → (⟨lv, nx, lo, hi, la, ks, vs, cs⟩ : Nod).AfterDrop ((⟨lv, nx, lo, hi, la, ks, vs, cs⟩ : Nod).drop at_.toNat) fan) := Lib.hid (fun h => drop_after (hc.1 h) HSN.out HFT.out H200.out)
  have HAT : Hid (d = true → ∃ a : Nat, at_ = a ∧ (⟨lv, nx, lo, hi, la, ks, vs, cs⟩ : Nod).AfterTurn ((⟨lv, nx, lo, hi, la, ks, vs, cs⟩ : Nod).turn at_.toNat low) a fan) := Lib.hid (fun h => by
    have h1 := hd.1 h
    obtain ⟨a, rfl⟩ : ∃ a : Nat, at_ = a := ⟨at_.toNat, by have := h1.2.1; omega⟩
    exact ⟨a, rfl, turn_after h1 HSN.out HFT.out H200.out hks⟩)
  have HFN : Hid (4 ≤ fan ∧ fan ≤ 64) := Lib.hid HS.out.1
  obtain ⟨P, V, R, hPV⟩ : ∃ P V R, (⟨lv, nx, lo, hi, la, ks, vs, cs⟩ : Nod).post low kid = ⟨lv, nx, lo, hi, la, P, V, R⟩ := ⟨_, _, _, rfl⟩
  obtain ⟨P2, V2, R2, hPV2⟩ : ∃ P V R, (⟨lv, nx, lo, hi, la, ks, vs, cs⟩ : Nod).drop at_.toNat = ⟨lv, nx, lo, hi, la, P, V, R⟩ := ⟨_, _, _, rfl⟩
  obtain ⟨P3, V3, R3, hPV3⟩ : ∃ P V R, (⟨lv, nx, lo, hi, la, ks, vs, cs⟩ : Nod).turn at_.toNat low = ⟨lv, nx, lo, hi, la, P, V, R⟩ := ⟨_, _, _, rfl⟩
  rw [hPV] at HPO HAP
  rw [hPV2] at HDR HAD
  rw [hPV3] at HTU HAT
  clear hb hc hd hks hk hPV hPV2 hPV3 HCB HS HP HLP
  cases b with
  | false =>
    clear HAP
    go_wp2_with fail
    refine (HPO.out _ H3.out).mono ?_
    obtain ⟨n0, hn0⟩ : ∃ n0, Nod.or false (⟨lv, nx, lo, hi, la, P, V, R⟩ : Nod) = n0 := ⟨_, rfl⟩
    rw [hn0]
    clear hn0
    rintro e w4 ⟨ak4, av4, ac4, ck4, cv4, cc4, rfl, hnd4, hb4, _⟩
    clear q0 q1 q2 q3 q4 q5 q6 q7
    obtain ⟨W4, hW4⟩ : ∃ W, W = w4.alloc (.cells #[.int .i64 n0.lv, .string n0.lo, .string n0.hi, .bool n0.la, .int .i64 n0.nx, .slice ak4 n0.ks.length ck4, .slice av4 n0.vs.length cv4, .slice ac4 n0.cs.length cc4] 26) := ⟨_, rfl⟩
    have hx4 := boxed_below w4 (.cells #[.int .i64 n0.lv, .string n0.lo, .string n0.hi, .bool n0.la, .int .i64 n0.nx, .slice ak4 n0.ks.length ck4, .slice av4 n0.vs.length cv4, .slice ac4 n0.cs.length cc4] 26)
    have HX4 : Hid (NB W4 w4.heap.size #[.int .i64 n0.lv, .string n0.lo, .string n0.hi, .bool n0.la, .int .i64 n0.nx, .slice ak4 n0.ks.length ck4, .slice av4 n0.vs.length cv4, .slice ac4 n0.cs.length cc4]) := Lib.hid (by rw [hW4]; exact NB.new _ _)
    rw [← hW4] at hx4
    have HY4 := Lib.hid (hnd4.keep hx4)
    have HZ4 := Lib.hid (hb4.trans (hx4.mono hb4.size))
    have HW4 := Lib.hid hW4
    have Hn_4 := Lib.hid (H3.out.trans (HZ4.out.mono H3.out.size))
    clear hW4 hx4 hnd4 hb4 H3
    have A4 : Hid (Below W4.heap.size W4 W4) := Lib.hid (Below.refl _ _)
    go_upto_region 4 with fail
    rw [← HW4.out]
    clear HW4
    clear HX4 HY4 A4
    obtain ⟨q0, q1, q2, q3, q4, q5, q6, q7⟩ := (HNB.out.below Hn_4.out).cells
    cases c with
    | false =>
      clear HAD
      go_wp2_with fail
      refine (HDR.out _ Hn_4.out).mono ?_
      obtain ⟨n0, hn0⟩ : ∃ n0, Nod.or false (⟨lv, nx, lo, hi, la, P2, V2, R2⟩ : Nod) = n0 := ⟨_, rfl⟩
      rw [hn0]
      clear hn0
      rintro e w5 ⟨ak5, av5, ac5, ck5, cv5, cc5, rfl, hnd5, hb5, _⟩
      clear q0 q1 q2 q3 q4 q5 q6 q7
      obtain ⟨W5, hW5⟩ : ∃ W, W = w5.alloc (.cells #[.int .i64 n0.lv, .string n0.lo, .string n0.hi, .bool n0.la, .int .i64 n0.nx, .slice ak5 n0.ks.length ck5, .slice av5 n0.vs.length cv5, .slice ac5 n0.cs.length cc5] 26) := ⟨_, rfl⟩
      have hx5 := boxed_below w5 (.cells #[.int .i64 n0.lv, .string n0.lo, .string n0.hi, .bool n0.la, .int .i64 n0.nx, .slice ak5 n0.ks.length ck5, .slice av5 n0.vs.length cv5, .slice ac5 n0.cs.length cc5] 26)
      have HX5 : Hid (NB W5 w5.heap.size #[.int .i64 n0.lv, .string n0.lo, .string n0.hi, .bool n0.la, .int .i64 n0.nx, .slice ak5 n0.ks.length ck5, .slice av5 n0.vs.length cv5, .slice ac5 n0.cs.length cc5]) := Lib.hid (by rw [hW5]; exact NB.new _ _)
      rw [← hW5] at hx5
      have HY5 := Lib.hid (hnd5.keep hx5)
      have HZ5 := Lib.hid (hb5.trans (hx5.mono hb5.size))
      have HW5 := Lib.hid hW5
      have Hn_5 := Lib.hid (Hn_4.out.trans (HZ5.out.mono Hn_4.out.size))
      clear hW5 hx5 hnd5 hb5 Hn_4
      have A5 : Hid (Below W5.heap.size W5 W5) := Lib.hid (Below.refl _ _)
      go_upto_region 10 with fail
      rw [← HW5.out]
      clear HW5
      clear HX5 HY5 A5
      obtain ⟨q0, q1, q2, q3, q4, q5, q6, q7⟩ := (HNB.out.below Hn_5.out).cells
      cases d with
      | false =>
        clear HAT
        go_wp2_with fail
        refine (HTU.out _ Hn_5.out).mono ?_
        obtain ⟨n0, hn0⟩ : ∃ n0, Nod.or false (⟨lv, nx, lo, hi, la, P3, V3, R3⟩ : Nod) = n0 := ⟨_, rfl⟩
        rw [hn0]
        clear hn0
        rintro e w6 ⟨ak6, av6, ac6, ck6, cv6, cc6, rfl, hnd6, hb6, _⟩
        clear q0 q1 q2 q3 q4 q5 q6 q7
        obtain ⟨W6, hW6⟩ : ∃ W, W = w6.alloc (.cells #[.int .i64 n0.lv, .string n0.lo, .string n0.hi, .bool n0.la, .int .i64 n0.nx, .slice ak6 n0.ks.length ck6, .slice av6 n0.vs.length cv6, .slice ac6 n0.cs.length cc6] 26) := ⟨_, rfl⟩
        have hx6 := boxed_below w6 (.cells #[.int .i64 n0.lv, .string n0.lo, .string n0.hi, .bool n0.la, .int .i64 n0.nx, .slice ak6 n0.ks.length ck6, .slice av6 n0.vs.length cv6, .slice ac6 n0.cs.length cc6] 26)
        have HX6 : Hid (NB W6 w6.heap.size #[.int .i64 n0.lv, .string n0.lo, .string n0.hi, .bool n0.la, .int .i64 n0.nx, .slice ak6 n0.ks.length ck6, .slice av6 n0.vs.length cv6, .slice ac6 n0.cs.length cc6]) := Lib.hid (by rw [hW6]; exact NB.new _ _)
        rw [← hW6] at hx6
        have HY6 := Lib.hid (hnd6.keep hx6)
        have HZ6 := Lib.hid (hb6.trans (hx6.mono hb6.size))
        have HW6 := Lib.hid hW6
        have Hn_6 := Lib.hid (Hn_5.out.trans (HZ6.out.mono Hn_5.out.size))
        clear hW6 hx6 hnd6 hb6 Hn_5
        have A6 : Hid (Below W6.heap.size W6 W6) := Lib.hid (Below.refl _ _)
        go_upto_region 13 with fail
        rw [← HW6.out]
        clear HW6
        have HE := Lib.hid (HB.out.trans (Hn_6.out.mono HB.out.size))
        go_wp2_with fail
        refine (HLV.out _).mono ?_
        rintro e wl ⟨rfl, hbl⟩
        have HBL := Lib.hid (HE.out.trans (hbl.mono HE.out.size))
        clear hbl
        go_wp2
        go_ret
        exact ⟨rfl, HBL.out⟩
      | true =>
        go_wp2_with fail
        refine (HTU.out _ Hn_5.out).mono ?_
        rw [show Nod.or true (⟨lv, nx, lo, hi, la, P3, V3, R3⟩ : Nod) = (⟨lv, nx, lo, hi, la, P3, V3, R3⟩ : Nod) from rfl]
        rintro e w6 ⟨ak6, av6, ac6, ck6, cv6, cc6, rfl, hnd6, hb6, _⟩
        clear q0 q1 q2 q3 q4 q5 q6 q7
        obtain ⟨W6, hW6⟩ : ∃ W, W = w6.alloc (.cells #[.int .i64 lv, .string lo, .string hi, .bool la, .int .i64 nx, .slice ak6 P3.length ck6, .slice av6 V3.length cv6, .slice ac6 R3.length cc6] 26) := ⟨_, rfl⟩
        have hx6 := boxed_below w6 (.cells #[.int .i64 lv, .string lo, .string hi, .bool la, .int .i64 nx, .slice ak6 P3.length ck6, .slice av6 V3.length cv6, .slice ac6 R3.length cc6] 26)
        have HX6 : Hid (NB W6 w6.heap.size #[.int .i64 lv, .string lo, .string hi, .bool la, .int .i64 nx, .slice ak6 P3.length ck6, .slice av6 V3.length cv6, .slice ac6 R3.length cc6]) := Lib.hid (by rw [hW6]; exact NB.new _ _)
        rw [← hW6] at hx6
        have HY6 := Lib.hid (hnd6.keep hx6)
        have HZ6 := Lib.hid (hb6.trans (hx6.mono hb6.size))
        have HW6 := Lib.hid hW6
        have Hn_6 := Lib.hid (Hn_5.out.trans (HZ6.out.mono Hn_5.out.size))
        clear hW6 hx6 hnd6 hb6 Hn_5
        have HA : Hid (Below W6.heap.size W6 W6) := Lib.hid (Below.refl _ _)
        go_upto_region 13 with fail
        rw [← HW6.out]
        clear HW6
        obtain ⟨a, haa, haf⟩ : ∃ a : Nat, at_ = a ∧ Nod.AfterTurn (⟨lv, nx, lo, hi, la, ks, vs, cs⟩ : Nod) (⟨lv, nx, lo, hi, la, P3, V3, R3⟩ : Nod) a fan := by first | exact HAT.out rfl | exact HAT.out trivial
        subst haa
        have HAF := Lib.hid haf
        have halt := HAF.out.at_
        simp only at halt
        obtain ⟨gk, ok, hgk, hck⟩ := rd_at HND.out.k ⟨#[]⟩ a halt
        have HKE : Hid (∀ V, Below w1.heap.size w1 V → V.cell? ⟨gk, ok + a, none⟩ = some (.string (nth ks a))) := Lib.hid (fun V h => by
          have h1 := hck a halt
          exact (h.cell (p := ⟨gk, ok + a, none⟩) (World.block_lt_of_cell? w1 _ h1)).trans h1)
        have HTB := Lib.hid (fun W (h : Below W6.heap.size W6 W) => iturn_of lv nx lo hi la ak6 av6 ac6 ck6 cv6 cc6 P3 V3 R3 a (nth ks a) true W (HY6.out.keep h) HAF.out.fit (by rw [nth_eq halt]; exact HFT.out.ks _ (List.getElem_mem _)) ⟨fun _ => HAF.out.turn, fun _ => rfl⟩)
        have HCKA := Lib.hid (fun W (h : Below W6.heap.size W6 W) => check_of lv nx lo hi la ak6 av6 ac6 P3.length ck6 V3.length cv6 R3.length cc6 P3 V3 R3 fan true W (HY6.out.keep h) HAF.out.fit ⟨fun _ => ⟨HFN.out, HAF.out.sound⟩, fun _ => rfl⟩)
        have hback := HAF.out.back
        simp only at hback
        rw [Int.toNat_natCast, hback] at HTB
        obtain ⟨E, hE⟩ : ∃ E, E = Nod.or true (⟨lv, nx, lo, hi, la, ks, vs, cs⟩ : Nod) := ⟨_, rfl⟩
        rw [← hE] at HTB
        have HEQ : Hid (E = (⟨lv, nx, lo, hi, la, ks, vs, cs⟩ : Nod)) := Lib.hid (by rw [hE]; rfl)
        generalize nth ks a = key at *
        have hai : (a : Int) < ks.length := by omega
        clear haf hback hE HAT hck
        have HNX := Lib.hid (HNB.out.below Hn_6.out)
        have HXX := HX6
        have HCC : Hid (∀ V, Below W6.heap.size W6 V → ((V.cell? ⟨w6.heap.size, 0, none⟩ = some (.int .i64 lv) ∧ V.cell? ⟨w6.heap.size, 1, none⟩ = some (.string lo) ∧ V.cell? ⟨w6.heap.size, 2, none⟩ = some (.string hi) ∧ V.cell? ⟨w6.heap.size, 3, none⟩ = some (.bool la) ∧ V.cell? ⟨w6.heap.size, 4, none⟩ = some (.int .i64 nx) ∧ V.cell? ⟨w6.heap.size, 5, none⟩ = some (.slice ak6 P3.length ck6) ∧ V.cell? ⟨w6.heap.size, 6, none⟩ = some (.slice av6 V3.length cv6) ∧ V.cell? ⟨w6.heap.size, 7, none⟩ = some (.slice ac6 R3.length cc6)) ∧ V.cell? ⟨w.heap.size, 5, none⟩ = some (.slice ak ks.length ck) ∧ V.cell? ⟨gk, ok + a, none⟩ = some (.string key)) ∧ Below W6.heap.size W6 V) := Lib.hid (fun V h => ⟨⟨(HXX.out.below h).cells, (HNX.out.below h).cells.2.2.2.2.2.1, HKE.out V (Hn_6.out.trans (h.mono Hn_6.out.size))⟩, h⟩)
        subst hgk
        go_upto_region 14 with fail
        go_cut [21, 22] (fun s21 s22 wx => Hid (s22 = .bool true ∧ InBox W6 wx s21 E))
        case first =>
          rename_i J1 K1 hJ1 hK1
          have hS0 := HCC.out W6.drew (Below.refl _ _).drew
          go_region_held_law (fun V => ((V.cell? ⟨w6.heap.size, 0, none⟩ = some (.int .i64 lv) ∧ V.cell? ⟨w6.heap.size, 1, none⟩ = some (.string lo) ∧ V.cell? ⟨w6.heap.size, 2, none⟩ = some (.string hi) ∧ V.cell? ⟨w6.heap.size, 3, none⟩ = some (.bool la) ∧ V.cell? ⟨w6.heap.size, 4, none⟩ = some (.int .i64 nx) ∧ V.cell? ⟨w6.heap.size, 5, none⟩ = some (.slice ak6 P3.length ck6) ∧ V.cell? ⟨w6.heap.size, 6, none⟩ = some (.slice av6 V3.length cv6) ∧ V.cell? ⟨w6.heap.size, 7, none⟩ = some (.slice ac6 R3.length cc6)) ∧ V.cell? ⟨w.heap.size, 5, none⟩ = some (.slice (some ⟨gk, ok, none⟩) ks.length ck) ∧ V.cell? ⟨gk, ok + a, none⟩ = some (.string key)) ∧ Below W6.heap.size W6 V)
            (first | (with_reducible exact hS0) | (with_reducible exact hS8) | ((with_reducible refine HCC.out _ ?_); repeat' (first | (with_reducible assumption) | (with_reducible exact Below.refl _ _) | (with_reducible refine Below.drew ?_) | (with_reducible refine Below.alloc ?_ ?_ _) | (with_reducible refine Below.setCell ?_ ?_ _) | omega | (simp <;> omega))))
            (first
              | (go_at_call 17; (with_reducible refine (HTB.out _ (And.right (by assumption))).mono ?_); rintro e w8 ⟨ak8, av8, ac8, ck8, cv8, cc8, rfl, hnd8, hb8, hfa, hfb, hfc⟩; have hB8 : Below W6.heap.size W6 w8 := Below.trans (And.right (by assumption)) (Below.mono hb8 (Below.size (And.right (by assumption)))); have hS8 := HCC.out _ hB8; have hzz8 := hB8.size; have HD8 := Lib.hid hnd8; clear hnd8; obtain ⟨hc8, hf8⟩ := bcell hb8; have hz8 := hb8.size; (try simp at hz8); (first | (have hx8 : W6.heap.size < w8.heap.size := by omega) | skip)))
          all_goals
            clear hc8 hf8
            refine hK1 _ _ (Met.intro (hJ1 _ _ ?_))
            (repeat apply Exists.intro)
            refine ⟨?_, rfl⟩
            refine Lib.hid ⟨rfl, ?_⟩
            (first
              | (with_reducible exact inBox_new HD8.out hB8)
              | ((with_reducible refine inBox_of ?_ ?_ ?_ HD8.out hfa hfb hfc hB8)
                 · repeat' (first | (with_reducible exact NB.new _ _) | (with_reducible refine NB.below ?_ hb8) | (with_reducible refine NB.drew8 ?_))
                 · simp
                 · simp))
        case rest =>
          obtain ⟨h22, g9, ak9, av9, ac9, ck9, cv9, cc9, h21, hnb9, hnd9, hb9⟩ := hcut.out
          subst h22
          subst h21
          have HX9 := Lib.hid hnb9
          have HY9 := Lib.hid hnd9
          have HA9 := Lib.hid hb9
          have HN9 := Lib.hid (Hn_6.out.trans (hb9.mono Hn_6.out.size))
          clear hcut hnb9 hnd9 hb9 HTB HCC HXX
          obtain ⟨t0, t1, t2, t3, t4, t5, t6, t7⟩ := (HX6.out.below HA9.out).cells
          have H9 : Hid (Below wc.heap.size wc wc) := Lib.hid (Below.refl _ _)
          go_wp2_with fail
          refine (HCKA.out _ HA9.out).mono ?_
          rintro e w27 ⟨c27, rfl, _, hc27, hb27⟩
          have Hn_27 := Lib.hid (HN9.out.trans (hb27.mono HN9.out.size))
          have HA_27 := Lib.hid (HA9.out.trans (hb27.mono HA9.out.size))
          have H9_27 := Lib.hid (H9.out.trans (hb27.mono H9.out.size))
          clear hb27 HN9 HA9 H9
          clear t0 t1 t2 t3 t4 t5 t6 t7
          obtain ⟨t0, t1, t2, t3, t4, t5, t6, t7⟩ := (HX9.out.below H9_27.out).cells
          obtain ⟨q0, q1, q2, q3, q4, q5, q6, q7⟩ := (HNB.out.below Hn_27.out).cells
          go_wp2_with fail
          refine (nsame_of E.lv E.nx E.lo E.hi E.la ak9 av9 ac9 E.ks.length ck9 E.vs.length cv9 E.cs.length cc9 lv nx lo hi la (some ⟨gk, ok, none⟩) av ac ks.length ck vs.length cv cs.length cc E.ks E.vs E.cs ks vs cs true _ (HY9.out.keep H9_27.out) (HND.out.keep Hn_27.out) ⟨fun _ => by rw [HEQ.out]; exact ⟨rfl, rfl, rfl, rfl, rfl, rfl, rfl, rfl⟩, fun _ => rfl⟩).mono ?_
          rintro e w28 ⟨rfl, hb28⟩
          have Hn_28 := Lib.hid (Hn_27.out.trans (hb28.mono Hn_27.out.size))
          have HA_28 := Lib.hid (HA_27.out.trans (hb28.mono HA_27.out.size))
          have H9_28 := Lib.hid (H9_27.out.trans (hb28.mono H9_27.out.size))
          clear hb28 Hn_27 HA_27 H9_27
          clear t0 t1 t2 t3 t4 t5 t6 t7 q0 q1 q2 q3 q4 q5 q6 q7
          have HE := Lib.hid (HB.out.trans (Hn_28.out.mono HB.out.size))
          go_wp2_with fail
          refine (HLV.out _).mono ?_
          rintro e wl ⟨rfl, hbl⟩
          have HBL := Lib.hid (HE.out.trans (hbl.mono HE.out.size))
          clear hbl
          go_wp2
          go_ret
          exact ⟨rfl, HBL.out⟩
    | true =>
      go_wp2_with fail
      refine (HDR.out _ Hn_4.out).mono ?_
      rw [show Nod.or true (⟨lv, nx, lo, hi, la, P2, V2, R2⟩ : Nod) = (⟨lv, nx, lo, hi, la, P2, V2, R2⟩ : Nod) from rfl]
      rintro e w5 ⟨ak5, av5, ac5, ck5, cv5, cc5, rfl, hnd5, hb5, _⟩
      clear q0 q1 q2 q3 q4 q5 q6 q7
      obtain ⟨W5, hW5⟩ : ∃ W, W = w5.alloc (.cells #[.int .i64 lv, .string lo, .string hi, .bool la, .int .i64 nx, .slice ak5 P2.length ck5, .slice av5 V2.length cv5, .slice ac5 R2.length cc5] 26) := ⟨_, rfl⟩
      have hx5 := boxed_below w5 (.cells #[.int .i64 lv, .string lo, .string hi, .bool la, .int .i64 nx, .slice ak5 P2.length ck5, .slice av5 V2.length cv5, .slice ac5 R2.length cc5] 26)
      have HX5 : Hid (NB W5 w5.heap.size #[.int .i64 lv, .string lo, .string hi, .bool la, .int .i64 nx, .slice ak5 P2.length ck5, .slice av5 V2.length cv5, .slice ac5 R2.length cc5]) := Lib.hid (by rw [hW5]; exact NB.new _ _)
      rw [← hW5] at hx5
      have HY5 := Lib.hid (hnd5.keep hx5)
      have HZ5 := Lib.hid (hb5.trans (hx5.mono hb5.size))
      have HW5 := Lib.hid hW5
      have Hn_5 := Lib.hid (Hn_4.out.trans (HZ5.out.mono Hn_4.out.size))
      clear hW5 hx5 hnd5 hb5 Hn_4
      have HA : Hid (Below W5.heap.size W5 W5) := Lib.hid (Below.refl _ _)
      go_upto_region 10 with fail
      rw [← HW5.out]
      clear HW5
      have HAF := Lib.hid (by first | exact HAD.out rfl | exact HAD.out trivial)
      have hless : (R2.length : Int) = (cs.length : Int) - 1 := by have := HAF.out.less; simp only at this; omega
      have hl200 := H200.out.2.2
      have HCKA := Lib.hid (fun W (h : Below W5.heap.size W5 W) => check_of lv nx lo hi la ak5 av5 ac5 P2.length ck5 V2.length cv5 R2.length cc5 P2 V2 R2 fan true W (HY5.out.keep h) HAF.out.fit ⟨fun _ => ⟨HFN.out, HAF.out.sound⟩, fun _ => rfl⟩)
      clear HAD
      obtain ⟨t0, t1, t2, t3, t4, t5, t6, t7⟩ := (HX5.out.below HA.out).cells
      go_wp2_with fail
      refine (HCKA.out _ HA.out).mono ?_
      rintro e w6 ⟨c6, rfl, _, hc6, hb6⟩
      have Hn_6 := Lib.hid (Hn_5.out.trans (hb6.mono Hn_5.out.size))
      have HA_6 := Lib.hid (HA.out.trans (hb6.mono HA.out.size))
      clear hb6 Hn_5 HA
      clear t0 t1 t2 t3 t4 t5 t6 t7
      obtain ⟨t0, t1, t2, t3, t4, t5, t6, t7⟩ := (HX5.out.below HA_6.out).cells
      obtain ⟨q0, q1, q2, q3, q4, q5, q6, q7⟩ := (HNB.out.below Hn_6.out).cells
      clear HCKA HAF HY5
      cases d with
      | false =>
        clear HAT
        go_wp2_with fail
        refine (HTU.out _ Hn_6.out).mono ?_
        obtain ⟨n0, hn0⟩ : ∃ n0, Nod.or false (⟨lv, nx, lo, hi, la, P3, V3, R3⟩ : Nod) = n0 := ⟨_, rfl⟩
        rw [hn0]
        clear hn0
        rintro e w7 ⟨ak7, av7, ac7, ck7, cv7, cc7, rfl, hnd7, hb7, _⟩
        clear q0 q1 q2 q3 q4 q5 q6 q7 t0 t1 t2 t3 t4 t5 t6 t7
        clear hless hl200 HX5 HA_6
        obtain ⟨W7, hW7⟩ : ∃ W, W = w7.alloc (.cells #[.int .i64 n0.lv, .string n0.lo, .string n0.hi, .bool n0.la, .int .i64 n0.nx, .slice ak7 n0.ks.length ck7, .slice av7 n0.vs.length cv7, .slice ac7 n0.cs.length cc7] 26) := ⟨_, rfl⟩
        have hx7 := boxed_below w7 (.cells #[.int .i64 n0.lv, .string n0.lo, .string n0.hi, .bool n0.la, .int .i64 n0.nx, .slice ak7 n0.ks.length ck7, .slice av7 n0.vs.length cv7, .slice ac7 n0.cs.length cc7] 26)
        have HX7 : Hid (NB W7 w7.heap.size #[.int .i64 n0.lv, .string n0.lo, .string n0.hi, .bool n0.la, .int .i64 n0.nx, .slice ak7 n0.ks.length ck7, .slice av7 n0.vs.length cv7, .slice ac7 n0.cs.length cc7]) := Lib.hid (by rw [hW7]; exact NB.new _ _)
        rw [← hW7] at hx7
        have HY7 := Lib.hid (hnd7.keep hx7)
        have HZ7 := Lib.hid (hb7.trans (hx7.mono hb7.size))
        have HW7 := Lib.hid hW7
        have Hn_7 := Lib.hid (Hn_6.out.trans (HZ7.out.mono Hn_6.out.size))
        clear hW7 hx7 hnd7 hb7 Hn_6
        have A7 : Hid (Below W7.heap.size W7 W7) := Lib.hid (Below.refl _ _)
        go_upto_region 13 with fail
        rw [← HW7.out]
        clear HW7
        have HE := Lib.hid (HB.out.trans (Hn_7.out.mono HB.out.size))
        go_wp2_with fail
        refine (HLV.out _).mono ?_
        rintro e wl ⟨rfl, hbl⟩
        have HBL := Lib.hid (HE.out.trans (hbl.mono HE.out.size))
        clear hbl
        go_wp2
        go_ret
        exact ⟨rfl, HBL.out⟩
      | true =>
        go_wp2_with fail
        refine (HTU.out _ Hn_6.out).mono ?_
        rw [show Nod.or true (⟨lv, nx, lo, hi, la, P3, V3, R3⟩ : Nod) = (⟨lv, nx, lo, hi, la, P3, V3, R3⟩ : Nod) from rfl]
        rintro e w7 ⟨ak7, av7, ac7, ck7, cv7, cc7, rfl, hnd7, hb7, _⟩
        clear q0 q1 q2 q3 q4 q5 q6 q7 t0 t1 t2 t3 t4 t5 t6 t7
        clear hless hl200 HX5 HA_6
        obtain ⟨W7, hW7⟩ : ∃ W, W = w7.alloc (.cells #[.int .i64 lv, .string lo, .string hi, .bool la, .int .i64 nx, .slice ak7 P3.length ck7, .slice av7 V3.length cv7, .slice ac7 R3.length cc7] 26) := ⟨_, rfl⟩
        have hx7 := boxed_below w7 (.cells #[.int .i64 lv, .string lo, .string hi, .bool la, .int .i64 nx, .slice ak7 P3.length ck7, .slice av7 V3.length cv7, .slice ac7 R3.length cc7] 26)
        have HX7 : Hid (NB W7 w7.heap.size #[.int .i64 lv, .string lo, .string hi, .bool la, .int .i64 nx, .slice ak7 P3.length ck7, .slice av7 V3.length cv7, .slice ac7 R3.length cc7]) := Lib.hid (by rw [hW7]; exact NB.new _ _)
        rw [← hW7] at hx7
        have HY7 := Lib.hid (hnd7.keep hx7)
        have HZ7 := Lib.hid (hb7.trans (hx7.mono hb7.size))
        have HW7 := Lib.hid hW7
        have Hn_7 := Lib.hid (Hn_6.out.trans (HZ7.out.mono Hn_6.out.size))
        clear hW7 hx7 hnd7 hb7 Hn_6
        have HA : Hid (Below W7.heap.size W7 W7) := Lib.hid (Below.refl _ _)
        go_upto_region 13 with fail
        rw [← HW7.out]
        clear HW7
        obtain ⟨a, haa, haf⟩ : ∃ a : Nat, at_ = a ∧ Nod.AfterTurn (⟨lv, nx, lo, hi, la, ks, vs, cs⟩ : Nod) (⟨lv, nx, lo, hi, la, P3, V3, R3⟩ : Nod) a fan := by first | exact HAT.out rfl | exact HAT.out trivial
        subst haa
        have HAF := Lib.hid haf
        have halt := HAF.out.at_
        simp only at halt
        obtain ⟨gk, ok, hgk, hck⟩ := rd_at HND.out.k ⟨#[]⟩ a halt
        have HKE : Hid (∀ V, Below w1.heap.size w1 V → V.cell? ⟨gk, ok + a, none⟩ = some (.string (nth ks a))) := Lib.hid (fun V h => by
          have h1 := hck a halt
          exact (h.cell (p := ⟨gk, ok + a, none⟩) (World.block_lt_of_cell? w1 _ h1)).trans h1)
        have HTB := Lib.hid (fun W (h : Below W7.heap.size W7 W) => iturn_of lv nx lo hi la ak7 av7 ac7 ck7 cv7 cc7 P3 V3 R3 a (nth ks a) true W (HY7.out.keep h) HAF.out.fit (by rw [nth_eq halt]; exact HFT.out.ks _ (List.getElem_mem _)) ⟨fun _ => HAF.out.turn, fun _ => rfl⟩)
        have HCKA := Lib.hid (fun W (h : Below W7.heap.size W7 W) => check_of lv nx lo hi la ak7 av7 ac7 P3.length ck7 V3.length cv7 R3.length cc7 P3 V3 R3 fan true W (HY7.out.keep h) HAF.out.fit ⟨fun _ => ⟨HFN.out, HAF.out.sound⟩, fun _ => rfl⟩)
        have hback := HAF.out.back
        simp only at hback
        rw [Int.toNat_natCast, hback] at HTB
        obtain ⟨E, hE⟩ : ∃ E, E = Nod.or true (⟨lv, nx, lo, hi, la, ks, vs, cs⟩ : Nod) := ⟨_, rfl⟩
        rw [← hE] at HTB
        have HEQ : Hid (E = (⟨lv, nx, lo, hi, la, ks, vs, cs⟩ : Nod)) := Lib.hid (by rw [hE]; rfl)
        generalize nth ks a = key at *
        have hai : (a : Int) < ks.length := by omega
        clear haf hback hE HAT hck
        have HNX := Lib.hid (HNB.out.below Hn_7.out)
        have HXX := HX7
        have HCC : Hid (∀ V, Below W7.heap.size W7 V → ((V.cell? ⟨w7.heap.size, 0, none⟩ = some (.int .i64 lv) ∧ V.cell? ⟨w7.heap.size, 1, none⟩ = some (.string lo) ∧ V.cell? ⟨w7.heap.size, 2, none⟩ = some (.string hi) ∧ V.cell? ⟨w7.heap.size, 3, none⟩ = some (.bool la) ∧ V.cell? ⟨w7.heap.size, 4, none⟩ = some (.int .i64 nx) ∧ V.cell? ⟨w7.heap.size, 5, none⟩ = some (.slice ak7 P3.length ck7) ∧ V.cell? ⟨w7.heap.size, 6, none⟩ = some (.slice av7 V3.length cv7) ∧ V.cell? ⟨w7.heap.size, 7, none⟩ = some (.slice ac7 R3.length cc7)) ∧ V.cell? ⟨w.heap.size, 5, none⟩ = some (.slice ak ks.length ck) ∧ V.cell? ⟨gk, ok + a, none⟩ = some (.string key)) ∧ Below W7.heap.size W7 V) := Lib.hid (fun V h => ⟨⟨(HXX.out.below h).cells, (HNX.out.below h).cells.2.2.2.2.2.1, HKE.out V (Hn_7.out.trans (h.mono Hn_7.out.size))⟩, h⟩)
        subst hgk
        go_upto_region 14 with fail
        go_cut [21, 22] (fun s21 s22 wx => Hid (s22 = .bool true ∧ InBox W7 wx s21 E))
        case first =>
          rename_i J1 K1 hJ1 hK1
          have hS0 := HCC.out W7.drew (Below.refl _ _).drew
          go_region_held_law (fun V => ((V.cell? ⟨w7.heap.size, 0, none⟩ = some (.int .i64 lv) ∧ V.cell? ⟨w7.heap.size, 1, none⟩ = some (.string lo) ∧ V.cell? ⟨w7.heap.size, 2, none⟩ = some (.string hi) ∧ V.cell? ⟨w7.heap.size, 3, none⟩ = some (.bool la) ∧ V.cell? ⟨w7.heap.size, 4, none⟩ = some (.int .i64 nx) ∧ V.cell? ⟨w7.heap.size, 5, none⟩ = some (.slice ak7 P3.length ck7) ∧ V.cell? ⟨w7.heap.size, 6, none⟩ = some (.slice av7 V3.length cv7) ∧ V.cell? ⟨w7.heap.size, 7, none⟩ = some (.slice ac7 R3.length cc7)) ∧ V.cell? ⟨w.heap.size, 5, none⟩ = some (.slice (some ⟨gk, ok, none⟩) ks.length ck) ∧ V.cell? ⟨gk, ok + a, none⟩ = some (.string key)) ∧ Below W7.heap.size W7 V)
            (first | (with_reducible exact hS0) | (with_reducible exact hS8) | ((with_reducible refine HCC.out _ ?_); repeat' (first | (with_reducible assumption) | (with_reducible exact Below.refl _ _) | (with_reducible refine Below.drew ?_) | (with_reducible refine Below.alloc ?_ ?_ _) | (with_reducible refine Below.setCell ?_ ?_ _) | omega | (simp <;> omega))))
            (first
              | (go_at_call 17; (with_reducible refine (HTB.out _ (And.right (by assumption))).mono ?_); rintro e w8 ⟨ak8, av8, ac8, ck8, cv8, cc8, rfl, hnd8, hb8, hfa, hfb, hfc⟩; have hB8 : Below W7.heap.size W7 w8 := Below.trans (And.right (by assumption)) (Below.mono hb8 (Below.size (And.right (by assumption)))); have hS8 := HCC.out _ hB8; have hzz8 := hB8.size; have HD8 := Lib.hid hnd8; clear hnd8; obtain ⟨hc8, hf8⟩ := bcell hb8; have hz8 := hb8.size; (try simp at hz8); (first | (have hx8 : W7.heap.size < w8.heap.size := by omega) | skip)))
          all_goals
            clear hc8 hf8
            refine hK1 _ _ (Met.intro (hJ1 _ _ ?_))
            (repeat apply Exists.intro)
            refine ⟨?_, rfl⟩
            refine Lib.hid ⟨rfl, ?_⟩
            (first
              | (with_reducible exact inBox_new HD8.out hB8)
              | ((with_reducible refine inBox_of ?_ ?_ ?_ HD8.out hfa hfb hfc hB8)
                 · repeat' (first | (with_reducible exact NB.new _ _) | (with_reducible refine NB.below ?_ hb8) | (with_reducible refine NB.drew8 ?_))
                 · simp
                 · simp))
        case rest =>
          obtain ⟨h22, g9, ak9, av9, ac9, ck9, cv9, cc9, h21, hnb9, hnd9, hb9⟩ := hcut.out
          subst h22
          subst h21
          have HX9 := Lib.hid hnb9
          have HY9 := Lib.hid hnd9
          have HA9 := Lib.hid hb9
          have HN9 := Lib.hid (Hn_7.out.trans (hb9.mono Hn_7.out.size))
          clear hcut hnb9 hnd9 hb9 HTB HCC HXX
          obtain ⟨t0, t1, t2, t3, t4, t5, t6, t7⟩ := (HX7.out.below HA9.out).cells
          have H9 : Hid (Below wc.heap.size wc wc) := Lib.hid (Below.refl _ _)
          go_wp2_with fail
          refine (HCKA.out _ HA9.out).mono ?_
          rintro e w28 ⟨c28, rfl, _, hc28, hb28⟩
          have Hn_28 := Lib.hid (HN9.out.trans (hb28.mono HN9.out.size))
          have HA_28 := Lib.hid (HA9.out.trans (hb28.mono HA9.out.size))
          have H9_28 := Lib.hid (H9.out.trans (hb28.mono H9.out.size))
          clear hb28 HN9 HA9 H9
          clear t0 t1 t2 t3 t4 t5 t6 t7
          obtain ⟨t0, t1, t2, t3, t4, t5, t6, t7⟩ := (HX9.out.below H9_28.out).cells
          obtain ⟨q0, q1, q2, q3, q4, q5, q6, q7⟩ := (HNB.out.below Hn_28.out).cells
          go_wp2_with fail
          refine (nsame_of E.lv E.nx E.lo E.hi E.la ak9 av9 ac9 E.ks.length ck9 E.vs.length cv9 E.cs.length cc9 lv nx lo hi la (some ⟨gk, ok, none⟩) av ac ks.length ck vs.length cv cs.length cc E.ks E.vs E.cs ks vs cs true _ (HY9.out.keep H9_28.out) (HND.out.keep Hn_28.out) ⟨fun _ => by rw [HEQ.out]; exact ⟨rfl, rfl, rfl, rfl, rfl, rfl, rfl, rfl⟩, fun _ => rfl⟩).mono ?_
          rintro e w29 ⟨rfl, hb29⟩
          have Hn_29 := Lib.hid (Hn_28.out.trans (hb29.mono Hn_28.out.size))
          have HA_29 := Lib.hid (HA_28.out.trans (hb29.mono HA_28.out.size))
          have H9_29 := Lib.hid (H9_28.out.trans (hb29.mono H9_28.out.size))
          clear hb29 Hn_28 HA_28 H9_28
          clear t0 t1 t2 t3 t4 t5 t6 t7 q0 q1 q2 q3 q4 q5 q6 q7
          have HE := Lib.hid (HB.out.trans (Hn_29.out.mono HB.out.size))
          go_wp2_with fail
          refine (HLV.out _).mono ?_
          rintro e wl ⟨rfl, hbl⟩
          have HBL := Lib.hid (HE.out.trans (hbl.mono HE.out.size))
          clear hbl
          go_wp2
          go_ret
          exact ⟨rfl, HBL.out⟩
  | true =>
    go_wp2_with fail
    refine (HPO.out _ H3.out).mono ?_
    rw [show Nod.or true (⟨lv, nx, lo, hi, la, P, V, R⟩ : Nod) = (⟨lv, nx, lo, hi, la, P, V, R⟩ : Nod) from rfl]
    rintro e w4 ⟨ak4, av4, ac4, ck4, cv4, cc4, rfl, hnd4, hb4, _⟩
    clear q0 q1 q2 q3 q4 q5 q6 q7
    obtain ⟨W4, hW4⟩ : ∃ W, W = w4.alloc (.cells #[.int .i64 lv, .string lo, .string hi, .bool la, .int .i64 nx, .slice ak4 P.length ck4, .slice av4 V.length cv4, .slice ac4 R.length cc4] 26) := ⟨_, rfl⟩
    have hx4 := boxed_below w4 (.cells #[.int .i64 lv, .string lo, .string hi, .bool la, .int .i64 nx, .slice ak4 P.length ck4, .slice av4 V.length cv4, .slice ac4 R.length cc4] 26)
    have HX4 : Hid (NB W4 w4.heap.size #[.int .i64 lv, .string lo, .string hi, .bool la, .int .i64 nx, .slice ak4 P.length ck4, .slice av4 V.length cv4, .slice ac4 R.length cc4]) := Lib.hid (by rw [hW4]; exact NB.new _ _)
    rw [← hW4] at hx4
    have HY4 := Lib.hid (hnd4.keep hx4)
    have HZ4 := Lib.hid (hb4.trans (hx4.mono hb4.size))
    have HW4 := Lib.hid hW4
    have Hn_4 := Lib.hid (H3.out.trans (HZ4.out.mono H3.out.size))
    clear hW4 hx4 hnd4 hb4 H3
    have HA : Hid (Below W4.heap.size W4 W4) := Lib.hid (Below.refl _ _)
    go_upto_region 4 with fail
    rw [← HW4.out]
    clear HW4
    have HAF := Lib.hid (by first | exact HAP.out rfl | exact HAP.out trivial)
    obtain ⟨pa, hpa, hdp, hdn⟩ := HAF.out.first
    have HPLA := Lib.hid (fun W (h : Below W4.heap.size W4 W) => (place_of lv nx lo hi la ak4 av4 ac4 P.length ck4 V.length cv4 R.length cc4 P V R kid true W (HY4.out.keep h) HAF.out.fit ⟨fun _ => HAF.out.inner, fun _ => rfl⟩).mono (fun e w' h => place_one hpa h))
    have HDRA := Lib.hid (fun W (h : Below W4.heap.size W4 W) => idrop_of lv nx lo hi la ak4 av4 ac4 ck4 cv4 cc4 P V R pa true W (HY4.out.keep h) HAF.out.fit ⟨fun _ => hdp, fun _ => rfl⟩)
    have HCKA := Lib.hid (fun W (h : Below W4.heap.size W4 W) => check_of lv nx lo hi la ak4 av4 ac4 P.length ck4 V.length cv4 R.length cc4 P V R fan true W (HY4.out.keep h) HAF.out.fit ⟨fun _ => ⟨HFN.out, HAF.out.sound⟩, fun _ => rfl⟩)
    rw [Int.toNat_natCast, hdn] at HDRA
    have hpo : placeOf true (pa : Int) = ((pa : Int), true) := by unfold placeOf; rw [if_pos (by omega)]; rfl
    rw [hpo] at HPLA
    simp only at HPLA
    clear hpa hdp hdn hpo HAP
    obtain ⟨t0, t1, t2, t3, t4, t5, t6, t7⟩ := (HX4.out.below HA.out).cells
    go_wp2_with fail
    refine (HPLA.out _ HA.out).mono ?_
    rintro e w5 ⟨rfl, hb5⟩
    have Hn_5 := Lib.hid (Hn_4.out.trans (hb5.mono Hn_4.out.size))
    have HA_5 := Lib.hid (HA.out.trans (hb5.mono HA.out.size))
    clear hb5 Hn_4 HA
    clear t0 t1 t2 t3 t4 t5 t6 t7
    obtain ⟨t0, t1, t2, t3, t4, t5, t6, t7⟩ := (HX4.out.below HA_5.out).cells
    go_wp2_with fail
    refine (HDRA.out _ HA_5.out).mono ?_
    rw [show Nod.or true (⟨lv, nx, lo, hi, la, ks, vs, cs⟩ : Nod) = (⟨lv, nx, lo, hi, la, ks, vs, cs⟩ : Nod) from rfl]
    rintro e w6 ⟨ak6, av6, ac6, ck6, cv6, cc6, rfl, hnd6, hb6, _⟩
    clear t0 t1 t2 t3 t4 t5 t6 t7
    obtain ⟨W6, hW6⟩ : ∃ W, W = w6.alloc (.cells #[.int .i64 lv, .string lo, .string hi, .bool la, .int .i64 nx, .slice ak6 ks.length ck6, .slice av6 vs.length cv6, .slice ac6 cs.length cc6] 26) := ⟨_, rfl⟩
    have hx6 := boxed_below w6 (.cells #[.int .i64 lv, .string lo, .string hi, .bool la, .int .i64 nx, .slice ak6 ks.length ck6, .slice av6 vs.length cv6, .slice ac6 cs.length cc6] 26)
    have HX6 : Hid (NB W6 w6.heap.size #[.int .i64 lv, .string lo, .string hi, .bool la, .int .i64 nx, .slice ak6 ks.length ck6, .slice av6 vs.length cv6, .slice ac6 cs.length cc6]) := Lib.hid (by rw [hW6]; exact NB.new _ _)
    rw [← hW6] at hx6
    have HY6 := Lib.hid (hnd6.keep hx6)
    have HZ6 := Lib.hid (hb6.trans (hx6.mono hb6.size))
    have HW6 := Lib.hid hW6
    have Hn_6 := Lib.hid (Hn_5.out.trans (HZ6.out.mono Hn_5.out.size))
    have HA_6 := Lib.hid (HA_5.out.trans (HZ6.out.mono HA_5.out.size))
    clear hW6 hx6 hnd6 hb6 Hn_5 HA_5
    have HD : Hid (Below W6.heap.size W6 W6) := Lib.hid (Below.refl _ _)
    go_upto_region 7 with fail
    rw [← HW6.out]
    clear HW6
    obtain ⟨t0, t1, t2, t3, t4, t5, t6, t7⟩ := (HX4.out.below HA_6.out).cells
    go_wp2_with fail
    refine (HCKA.out _ HA_6.out).mono ?_
    rintro e w7 ⟨c7, rfl, _, hc7, hb7⟩
    have Hn_7 := Lib.hid (Hn_6.out.trans (hb7.mono Hn_6.out.size))
    have HA_7 := Lib.hid (HA_6.out.trans (hb7.mono HA_6.out.size))
    have HD_7 := Lib.hid (HD.out.trans (hb7.mono HD.out.size))
    clear hb7 Hn_6 HA_6 HD
    clear t0 t1 t2 t3 t4 t5 t6 t7
    obtain ⟨t0, t1, t2, t3, t4, t5, t6, t7⟩ := (HX6.out.below HD_7.out).cells
    obtain ⟨q0, q1, q2, q3, q4, q5, q6, q7⟩ := (HNB.out.below Hn_7.out).cells
    go_wp2_with fail
    refine (nsame_of lv nx lo hi la ak6 av6 ac6 ks.length ck6 vs.length cv6 cs.length cc6 lv nx lo hi la ak av ac ks.length ck vs.length cv cs.length cc ks vs cs ks vs cs true _ (HY6.out.keep HD_7.out) (HND.out.keep Hn_7.out) ⟨fun _ => ⟨rfl, rfl, rfl, rfl, rfl, rfl, rfl, rfl⟩, fun _ => rfl⟩).mono ?_
    rintro e w8 ⟨rfl, hb8⟩
    have Hn_8 := Lib.hid (Hn_7.out.trans (hb8.mono Hn_7.out.size))
    have HA_8 := Lib.hid (HA_7.out.trans (hb8.mono HA_7.out.size))
    have HD_8 := Lib.hid (HD_7.out.trans (hb8.mono HD_7.out.size))
    clear hb8 Hn_7 HA_7 HD_7
    clear t0 t1 t2 t3 t4 t5 t6 t7 q0 q1 q2 q3 q4 q5 q6 q7
    obtain ⟨t0, t1, t2, t3, t4, t5, t6, t7⟩ := (HX4.out.below HA_8.out).cells
    obtain ⟨q0, q1, q2, q3, q4, q5, q6, q7⟩ := (HNB.out.below Hn_8.out).cells
    clear HPLA HDRA HCKA HX6 HY4 HY6 HD_8
    cases c with
    | false =>
      clear HAD
      go_wp2_with fail
      refine (HDR.out _ Hn_8.out).mono ?_
      obtain ⟨n0, hn0⟩ : ∃ n0, Nod.or false (⟨lv, nx, lo, hi, la, P2, V2, R2⟩ : Nod) = n0 := ⟨_, rfl⟩
      rw [hn0]
      clear hn0
      rintro e w9 ⟨ak9, av9, ac9, ck9, cv9, cc9, rfl, hnd9, hb9, _⟩
      clear q0 q1 q2 q3 q4 q5 q6 q7 t0 t1 t2 t3 t4 t5 t6 t7
      clear HX4 HAF HA_8
      obtain ⟨W9, hW9⟩ : ∃ W, W = w9.alloc (.cells #[.int .i64 n0.lv, .string n0.lo, .string n0.hi, .bool n0.la, .int .i64 n0.nx, .slice ak9 n0.ks.length ck9, .slice av9 n0.vs.length cv9, .slice ac9 n0.cs.length cc9] 26) := ⟨_, rfl⟩
      have hx9 := boxed_below w9 (.cells #[.int .i64 n0.lv, .string n0.lo, .string n0.hi, .bool n0.la, .int .i64 n0.nx, .slice ak9 n0.ks.length ck9, .slice av9 n0.vs.length cv9, .slice ac9 n0.cs.length cc9] 26)
      have HX9 : Hid (NB W9 w9.heap.size #[.int .i64 n0.lv, .string n0.lo, .string n0.hi, .bool n0.la, .int .i64 n0.nx, .slice ak9 n0.ks.length ck9, .slice av9 n0.vs.length cv9, .slice ac9 n0.cs.length cc9]) := Lib.hid (by rw [hW9]; exact NB.new _ _)
      rw [← hW9] at hx9
      have HY9 := Lib.hid (hnd9.keep hx9)
      have HZ9 := Lib.hid (hb9.trans (hx9.mono hb9.size))
      have HW9 := Lib.hid hW9
      have Hn_9 := Lib.hid (Hn_8.out.trans (HZ9.out.mono Hn_8.out.size))
      clear hW9 hx9 hnd9 hb9 Hn_8
      have A9 : Hid (Below W9.heap.size W9 W9) := Lib.hid (Below.refl _ _)
      go_upto_region 10 with fail
      rw [← HW9.out]
      clear HW9
      clear HX9 HY9 A9
      obtain ⟨q0, q1, q2, q3, q4, q5, q6, q7⟩ := (HNB.out.below Hn_9.out).cells
      cases d with
      | false =>
        clear HAT
        go_wp2_with fail
        refine (HTU.out _ Hn_9.out).mono ?_
        obtain ⟨n0, hn0⟩ : ∃ n0, Nod.or false (⟨lv, nx, lo, hi, la, P3, V3, R3⟩ : Nod) = n0 := ⟨_, rfl⟩
        rw [hn0]
        clear hn0
        rintro e w10 ⟨ak10, av10, ac10, ck10, cv10, cc10, rfl, hnd10, hb10, _⟩
        clear q0 q1 q2 q3 q4 q5 q6 q7
        obtain ⟨W10, hW10⟩ : ∃ W, W = w10.alloc (.cells #[.int .i64 n0.lv, .string n0.lo, .string n0.hi, .bool n0.la, .int .i64 n0.nx, .slice ak10 n0.ks.length ck10, .slice av10 n0.vs.length cv10, .slice ac10 n0.cs.length cc10] 26) := ⟨_, rfl⟩
        have hx10 := boxed_below w10 (.cells #[.int .i64 n0.lv, .string n0.lo, .string n0.hi, .bool n0.la, .int .i64 n0.nx, .slice ak10 n0.ks.length ck10, .slice av10 n0.vs.length cv10, .slice ac10 n0.cs.length cc10] 26)
        have HX10 : Hid (NB W10 w10.heap.size #[.int .i64 n0.lv, .string n0.lo, .string n0.hi, .bool n0.la, .int .i64 n0.nx, .slice ak10 n0.ks.length ck10, .slice av10 n0.vs.length cv10, .slice ac10 n0.cs.length cc10]) := Lib.hid (by rw [hW10]; exact NB.new _ _)
        rw [← hW10] at hx10
        have HY10 := Lib.hid (hnd10.keep hx10)
        have HZ10 := Lib.hid (hb10.trans (hx10.mono hb10.size))
        have HW10 := Lib.hid hW10
        have Hn_10 := Lib.hid (Hn_9.out.trans (HZ10.out.mono Hn_9.out.size))
        clear hW10 hx10 hnd10 hb10 Hn_9
        have A10 : Hid (Below W10.heap.size W10 W10) := Lib.hid (Below.refl _ _)
        go_upto_region 13 with fail
        rw [← HW10.out]
        clear HW10
        have HE := Lib.hid (HB.out.trans (Hn_10.out.mono HB.out.size))
        go_wp2_with fail
        refine (HLV.out _).mono ?_
        rintro e wl ⟨rfl, hbl⟩
        have HBL := Lib.hid (HE.out.trans (hbl.mono HE.out.size))
        clear hbl
        go_wp2
        go_ret
        exact ⟨rfl, HBL.out⟩
      | true =>
        go_wp2_with fail
        refine (HTU.out _ Hn_9.out).mono ?_
        rw [show Nod.or true (⟨lv, nx, lo, hi, la, P3, V3, R3⟩ : Nod) = (⟨lv, nx, lo, hi, la, P3, V3, R3⟩ : Nod) from rfl]
        rintro e w10 ⟨ak10, av10, ac10, ck10, cv10, cc10, rfl, hnd10, hb10, _⟩
        clear q0 q1 q2 q3 q4 q5 q6 q7
        obtain ⟨W10, hW10⟩ : ∃ W, W = w10.alloc (.cells #[.int .i64 lv, .string lo, .string hi, .bool la, .int .i64 nx, .slice ak10 P3.length ck10, .slice av10 V3.length cv10, .slice ac10 R3.length cc10] 26) := ⟨_, rfl⟩
        have hx10 := boxed_below w10 (.cells #[.int .i64 lv, .string lo, .string hi, .bool la, .int .i64 nx, .slice ak10 P3.length ck10, .slice av10 V3.length cv10, .slice ac10 R3.length cc10] 26)
        have HX10 : Hid (NB W10 w10.heap.size #[.int .i64 lv, .string lo, .string hi, .bool la, .int .i64 nx, .slice ak10 P3.length ck10, .slice av10 V3.length cv10, .slice ac10 R3.length cc10]) := Lib.hid (by rw [hW10]; exact NB.new _ _)
        rw [← hW10] at hx10
        have HY10 := Lib.hid (hnd10.keep hx10)
        have HZ10 := Lib.hid (hb10.trans (hx10.mono hb10.size))
        have HW10 := Lib.hid hW10
        have Hn_10 := Lib.hid (Hn_9.out.trans (HZ10.out.mono Hn_9.out.size))
        clear hW10 hx10 hnd10 hb10 Hn_9
        have HA : Hid (Below W10.heap.size W10 W10) := Lib.hid (Below.refl _ _)
        go_upto_region 13 with fail
        rw [← HW10.out]
        clear HW10
        obtain ⟨a, haa, haf⟩ : ∃ a : Nat, at_ = a ∧ Nod.AfterTurn (⟨lv, nx, lo, hi, la, ks, vs, cs⟩ : Nod) (⟨lv, nx, lo, hi, la, P3, V3, R3⟩ : Nod) a fan := by first | exact HAT.out rfl | exact HAT.out trivial
        subst haa
        have HAF := Lib.hid haf
        have halt := HAF.out.at_
        simp only at halt
        obtain ⟨gk, ok, hgk, hck⟩ := rd_at HND.out.k ⟨#[]⟩ a halt
        have HKE : Hid (∀ V, Below w1.heap.size w1 V → V.cell? ⟨gk, ok + a, none⟩ = some (.string (nth ks a))) := Lib.hid (fun V h => by
          have h1 := hck a halt
          exact (h.cell (p := ⟨gk, ok + a, none⟩) (World.block_lt_of_cell? w1 _ h1)).trans h1)
        have HTB := Lib.hid (fun W (h : Below W10.heap.size W10 W) => iturn_of lv nx lo hi la ak10 av10 ac10 ck10 cv10 cc10 P3 V3 R3 a (nth ks a) true W (HY10.out.keep h) HAF.out.fit (by rw [nth_eq halt]; exact HFT.out.ks _ (List.getElem_mem _)) ⟨fun _ => HAF.out.turn, fun _ => rfl⟩)
        have HCKA := Lib.hid (fun W (h : Below W10.heap.size W10 W) => check_of lv nx lo hi la ak10 av10 ac10 P3.length ck10 V3.length cv10 R3.length cc10 P3 V3 R3 fan true W (HY10.out.keep h) HAF.out.fit ⟨fun _ => ⟨HFN.out, HAF.out.sound⟩, fun _ => rfl⟩)
        have hback := HAF.out.back
        simp only at hback
        rw [Int.toNat_natCast, hback] at HTB
        obtain ⟨E, hE⟩ : ∃ E, E = Nod.or true (⟨lv, nx, lo, hi, la, ks, vs, cs⟩ : Nod) := ⟨_, rfl⟩
        rw [← hE] at HTB
        have HEQ : Hid (E = (⟨lv, nx, lo, hi, la, ks, vs, cs⟩ : Nod)) := Lib.hid (by rw [hE]; rfl)
        generalize nth ks a = key at *
        have hai : (a : Int) < ks.length := by omega
        clear haf hback hE HAT hck
        have HNX := Lib.hid (HNB.out.below Hn_10.out)
        have HXX := HX10
        have HCC : Hid (∀ V, Below W10.heap.size W10 V → ((V.cell? ⟨w10.heap.size, 0, none⟩ = some (.int .i64 lv) ∧ V.cell? ⟨w10.heap.size, 1, none⟩ = some (.string lo) ∧ V.cell? ⟨w10.heap.size, 2, none⟩ = some (.string hi) ∧ V.cell? ⟨w10.heap.size, 3, none⟩ = some (.bool la) ∧ V.cell? ⟨w10.heap.size, 4, none⟩ = some (.int .i64 nx) ∧ V.cell? ⟨w10.heap.size, 5, none⟩ = some (.slice ak10 P3.length ck10) ∧ V.cell? ⟨w10.heap.size, 6, none⟩ = some (.slice av10 V3.length cv10) ∧ V.cell? ⟨w10.heap.size, 7, none⟩ = some (.slice ac10 R3.length cc10)) ∧ V.cell? ⟨w.heap.size, 5, none⟩ = some (.slice ak ks.length ck) ∧ V.cell? ⟨gk, ok + a, none⟩ = some (.string key)) ∧ Below W10.heap.size W10 V) := Lib.hid (fun V h => ⟨⟨(HXX.out.below h).cells, (HNX.out.below h).cells.2.2.2.2.2.1, HKE.out V (Hn_10.out.trans (h.mono Hn_10.out.size))⟩, h⟩)
        subst hgk
        go_upto_region 14 with fail
        go_cut [21, 22] (fun s21 s22 wx => Hid (s22 = .bool true ∧ InBox W10 wx s21 E))
        case first =>
          rename_i J1 K1 hJ1 hK1
          have hS0 := HCC.out W10.drew (Below.refl _ _).drew
          go_region_held_law (fun V => ((V.cell? ⟨w10.heap.size, 0, none⟩ = some (.int .i64 lv) ∧ V.cell? ⟨w10.heap.size, 1, none⟩ = some (.string lo) ∧ V.cell? ⟨w10.heap.size, 2, none⟩ = some (.string hi) ∧ V.cell? ⟨w10.heap.size, 3, none⟩ = some (.bool la) ∧ V.cell? ⟨w10.heap.size, 4, none⟩ = some (.int .i64 nx) ∧ V.cell? ⟨w10.heap.size, 5, none⟩ = some (.slice ak10 P3.length ck10) ∧ V.cell? ⟨w10.heap.size, 6, none⟩ = some (.slice av10 V3.length cv10) ∧ V.cell? ⟨w10.heap.size, 7, none⟩ = some (.slice ac10 R3.length cc10)) ∧ V.cell? ⟨w.heap.size, 5, none⟩ = some (.slice (some ⟨gk, ok, none⟩) ks.length ck) ∧ V.cell? ⟨gk, ok + a, none⟩ = some (.string key)) ∧ Below W10.heap.size W10 V)
            (first | (with_reducible exact hS0) | (with_reducible exact hS8) | ((with_reducible refine HCC.out _ ?_); repeat' (first | (with_reducible assumption) | (with_reducible exact Below.refl _ _) | (with_reducible refine Below.drew ?_) | (with_reducible refine Below.alloc ?_ ?_ _) | (with_reducible refine Below.setCell ?_ ?_ _) | omega | (simp <;> omega))))
            (first
              | (go_at_call 17; (with_reducible refine (HTB.out _ (And.right (by assumption))).mono ?_); rintro e w8 ⟨ak8, av8, ac8, ck8, cv8, cc8, rfl, hnd8, hb8, hfa, hfb, hfc⟩; have hB8 : Below W10.heap.size W10 w8 := Below.trans (And.right (by assumption)) (Below.mono hb8 (Below.size (And.right (by assumption)))); have hS8 := HCC.out _ hB8; have hzz8 := hB8.size; have HD8 := Lib.hid hnd8; clear hnd8; obtain ⟨hc8, hf8⟩ := bcell hb8; have hz8 := hb8.size; (try simp at hz8); (first | (have hx8 : W10.heap.size < w8.heap.size := by omega) | skip)))
          all_goals
            clear hc8 hf8
            refine hK1 _ _ (Met.intro (hJ1 _ _ ?_))
            (repeat apply Exists.intro)
            refine ⟨?_, rfl⟩
            refine Lib.hid ⟨rfl, ?_⟩
            (first
              | (with_reducible exact inBox_new HD8.out hB8)
              | ((with_reducible refine inBox_of ?_ ?_ ?_ HD8.out hfa hfb hfc hB8)
                 · repeat' (first | (with_reducible exact NB.new _ _) | (with_reducible refine NB.below ?_ hb8) | (with_reducible refine NB.drew8 ?_))
                 · simp
                 · simp))
        case rest =>
          obtain ⟨h22, g9, ak9, av9, ac9, ck9, cv9, cc9, h21, hnb9, hnd9, hb9⟩ := hcut.out
          subst h22
          subst h21
          have HX9 := Lib.hid hnb9
          have HY9 := Lib.hid hnd9
          have HA9 := Lib.hid hb9
          have HN9 := Lib.hid (Hn_10.out.trans (hb9.mono Hn_10.out.size))
          clear hcut hnb9 hnd9 hb9 HTB HCC HXX
          obtain ⟨t0, t1, t2, t3, t4, t5, t6, t7⟩ := (HX10.out.below HA9.out).cells
          have H9 : Hid (Below wc.heap.size wc wc) := Lib.hid (Below.refl _ _)
          go_wp2_with fail
          refine (HCKA.out _ HA9.out).mono ?_
          rintro e w31 ⟨c31, rfl, _, hc31, hb31⟩
          have Hn_31 := Lib.hid (HN9.out.trans (hb31.mono HN9.out.size))
          have HA_31 := Lib.hid (HA9.out.trans (hb31.mono HA9.out.size))
          have H9_31 := Lib.hid (H9.out.trans (hb31.mono H9.out.size))
          clear hb31 HN9 HA9 H9
          clear t0 t1 t2 t3 t4 t5 t6 t7
          obtain ⟨t0, t1, t2, t3, t4, t5, t6, t7⟩ := (HX9.out.below H9_31.out).cells
          obtain ⟨q0, q1, q2, q3, q4, q5, q6, q7⟩ := (HNB.out.below Hn_31.out).cells
          go_wp2_with fail
          refine (nsame_of E.lv E.nx E.lo E.hi E.la ak9 av9 ac9 E.ks.length ck9 E.vs.length cv9 E.cs.length cc9 lv nx lo hi la (some ⟨gk, ok, none⟩) av ac ks.length ck vs.length cv cs.length cc E.ks E.vs E.cs ks vs cs true _ (HY9.out.keep H9_31.out) (HND.out.keep Hn_31.out) ⟨fun _ => by rw [HEQ.out]; exact ⟨rfl, rfl, rfl, rfl, rfl, rfl, rfl, rfl⟩, fun _ => rfl⟩).mono ?_
          rintro e w32 ⟨rfl, hb32⟩
          have Hn_32 := Lib.hid (Hn_31.out.trans (hb32.mono Hn_31.out.size))
          have HA_32 := Lib.hid (HA_31.out.trans (hb32.mono HA_31.out.size))
          have H9_32 := Lib.hid (H9_31.out.trans (hb32.mono H9_31.out.size))
          clear hb32 Hn_31 HA_31 H9_31
          clear t0 t1 t2 t3 t4 t5 t6 t7 q0 q1 q2 q3 q4 q5 q6 q7
          have HE := Lib.hid (HB.out.trans (Hn_32.out.mono HB.out.size))
          go_wp2_with fail
          refine (HLV.out _).mono ?_
          rintro e wl ⟨rfl, hbl⟩
          have HBL := Lib.hid (HE.out.trans (hbl.mono HE.out.size))
          clear hbl
          go_wp2
          go_ret
          exact ⟨rfl, HBL.out⟩
    | true =>
      go_wp2_with fail
      refine (HDR.out _ Hn_8.out).mono ?_
      rw [show Nod.or true (⟨lv, nx, lo, hi, la, P2, V2, R2⟩ : Nod) = (⟨lv, nx, lo, hi, la, P2, V2, R2⟩ : Nod) from rfl]
      rintro e w9 ⟨ak9, av9, ac9, ck9, cv9, cc9, rfl, hnd9, hb9, _⟩
      clear q0 q1 q2 q3 q4 q5 q6 q7 t0 t1 t2 t3 t4 t5 t6 t7
      clear HX4 HAF HA_8
      obtain ⟨W9, hW9⟩ : ∃ W, W = w9.alloc (.cells #[.int .i64 lv, .string lo, .string hi, .bool la, .int .i64 nx, .slice ak9 P2.length ck9, .slice av9 V2.length cv9, .slice ac9 R2.length cc9] 26) := ⟨_, rfl⟩
      have hx9 := boxed_below w9 (.cells #[.int .i64 lv, .string lo, .string hi, .bool la, .int .i64 nx, .slice ak9 P2.length ck9, .slice av9 V2.length cv9, .slice ac9 R2.length cc9] 26)
      have HX9 : Hid (NB W9 w9.heap.size #[.int .i64 lv, .string lo, .string hi, .bool la, .int .i64 nx, .slice ak9 P2.length ck9, .slice av9 V2.length cv9, .slice ac9 R2.length cc9]) := Lib.hid (by rw [hW9]; exact NB.new _ _)
      rw [← hW9] at hx9
      have HY9 := Lib.hid (hnd9.keep hx9)
      have HZ9 := Lib.hid (hb9.trans (hx9.mono hb9.size))
      have HW9 := Lib.hid hW9
      have Hn_9 := Lib.hid (Hn_8.out.trans (HZ9.out.mono Hn_8.out.size))
      clear hW9 hx9 hnd9 hb9 Hn_8
      have HA : Hid (Below W9.heap.size W9 W9) := Lib.hid (Below.refl _ _)
      go_upto_region 10 with fail
      rw [← HW9.out]
      clear HW9
      have HAF := Lib.hid (by first | exact HAD.out rfl | exact HAD.out trivial)
      have hless : (R2.length : Int) = (cs.length : Int) - 1 := by have := HAF.out.less; simp only at this; omega
      have hl200 := H200.out.2.2
      have HCKA := Lib.hid (fun W (h : Below W9.heap.size W9 W) => check_of lv nx lo hi la ak9 av9 ac9 P2.length ck9 V2.length cv9 R2.length cc9 P2 V2 R2 fan true W (HY9.out.keep h) HAF.out.fit ⟨fun _ => ⟨HFN.out, HAF.out.sound⟩, fun _ => rfl⟩)
      clear HAD
      obtain ⟨t0, t1, t2, t3, t4, t5, t6, t7⟩ := (HX9.out.below HA.out).cells
      go_wp2_with fail
      refine (HCKA.out _ HA.out).mono ?_
      rintro e w10 ⟨c10, rfl, _, hc10, hb10⟩
      have Hn_10 := Lib.hid (Hn_9.out.trans (hb10.mono Hn_9.out.size))
      have HA_10 := Lib.hid (HA.out.trans (hb10.mono HA.out.size))
      clear hb10 Hn_9 HA
      clear t0 t1 t2 t3 t4 t5 t6 t7
      obtain ⟨t0, t1, t2, t3, t4, t5, t6, t7⟩ := (HX9.out.below HA_10.out).cells
      obtain ⟨q0, q1, q2, q3, q4, q5, q6, q7⟩ := (HNB.out.below Hn_10.out).cells
      clear HCKA HAF HY9
      cases d with
      | false =>
        clear HAT
        go_wp2_with fail
        refine (HTU.out _ Hn_10.out).mono ?_
        obtain ⟨n0, hn0⟩ : ∃ n0, Nod.or false (⟨lv, nx, lo, hi, la, P3, V3, R3⟩ : Nod) = n0 := ⟨_, rfl⟩
        rw [hn0]
        clear hn0
        rintro e w11 ⟨ak11, av11, ac11, ck11, cv11, cc11, rfl, hnd11, hb11, _⟩
        clear q0 q1 q2 q3 q4 q5 q6 q7 t0 t1 t2 t3 t4 t5 t6 t7
        clear hless hl200 HX9 HA_10
        obtain ⟨W11, hW11⟩ : ∃ W, W = w11.alloc (.cells #[.int .i64 n0.lv, .string n0.lo, .string n0.hi, .bool n0.la, .int .i64 n0.nx, .slice ak11 n0.ks.length ck11, .slice av11 n0.vs.length cv11, .slice ac11 n0.cs.length cc11] 26) := ⟨_, rfl⟩
        have hx11 := boxed_below w11 (.cells #[.int .i64 n0.lv, .string n0.lo, .string n0.hi, .bool n0.la, .int .i64 n0.nx, .slice ak11 n0.ks.length ck11, .slice av11 n0.vs.length cv11, .slice ac11 n0.cs.length cc11] 26)
        have HX11 : Hid (NB W11 w11.heap.size #[.int .i64 n0.lv, .string n0.lo, .string n0.hi, .bool n0.la, .int .i64 n0.nx, .slice ak11 n0.ks.length ck11, .slice av11 n0.vs.length cv11, .slice ac11 n0.cs.length cc11]) := Lib.hid (by rw [hW11]; exact NB.new _ _)
        rw [← hW11] at hx11
        have HY11 := Lib.hid (hnd11.keep hx11)
        have HZ11 := Lib.hid (hb11.trans (hx11.mono hb11.size))
        have HW11 := Lib.hid hW11
        have Hn_11 := Lib.hid (Hn_10.out.trans (HZ11.out.mono Hn_10.out.size))
        clear hW11 hx11 hnd11 hb11 Hn_10
        have A11 : Hid (Below W11.heap.size W11 W11) := Lib.hid (Below.refl _ _)
        go_upto_region 13 with fail
        rw [← HW11.out]
        clear HW11
        have HE := Lib.hid (HB.out.trans (Hn_11.out.mono HB.out.size))
        go_wp2_with fail
        refine (HLV.out _).mono ?_
        rintro e wl ⟨rfl, hbl⟩
        have HBL := Lib.hid (HE.out.trans (hbl.mono HE.out.size))
        clear hbl
        go_wp2
        go_ret
        exact ⟨rfl, HBL.out⟩
      | true =>
        go_wp2_with fail
        refine (HTU.out _ Hn_10.out).mono ?_
        rw [show Nod.or true (⟨lv, nx, lo, hi, la, P3, V3, R3⟩ : Nod) = (⟨lv, nx, lo, hi, la, P3, V3, R3⟩ : Nod) from rfl]
        rintro e w11 ⟨ak11, av11, ac11, ck11, cv11, cc11, rfl, hnd11, hb11, _⟩
        clear q0 q1 q2 q3 q4 q5 q6 q7 t0 t1 t2 t3 t4 t5 t6 t7
        clear hless hl200 HX9 HA_10
        obtain ⟨W11, hW11⟩ : ∃ W, W = w11.alloc (.cells #[.int .i64 lv, .string lo, .string hi, .bool la, .int .i64 nx, .slice ak11 P3.length ck11, .slice av11 V3.length cv11, .slice ac11 R3.length cc11] 26) := ⟨_, rfl⟩
        have hx11 := boxed_below w11 (.cells #[.int .i64 lv, .string lo, .string hi, .bool la, .int .i64 nx, .slice ak11 P3.length ck11, .slice av11 V3.length cv11, .slice ac11 R3.length cc11] 26)
        have HX11 : Hid (NB W11 w11.heap.size #[.int .i64 lv, .string lo, .string hi, .bool la, .int .i64 nx, .slice ak11 P3.length ck11, .slice av11 V3.length cv11, .slice ac11 R3.length cc11]) := Lib.hid (by rw [hW11]; exact NB.new _ _)
        rw [← hW11] at hx11
        have HY11 := Lib.hid (hnd11.keep hx11)
        have HZ11 := Lib.hid (hb11.trans (hx11.mono hb11.size))
        have HW11 := Lib.hid hW11
        have Hn_11 := Lib.hid (Hn_10.out.trans (HZ11.out.mono Hn_10.out.size))
        clear hW11 hx11 hnd11 hb11 Hn_10
        have HA : Hid (Below W11.heap.size W11 W11) := Lib.hid (Below.refl _ _)
        go_upto_region 13 with fail
        rw [← HW11.out]
        clear HW11
        obtain ⟨a, haa, haf⟩ : ∃ a : Nat, at_ = a ∧ Nod.AfterTurn (⟨lv, nx, lo, hi, la, ks, vs, cs⟩ : Nod) (⟨lv, nx, lo, hi, la, P3, V3, R3⟩ : Nod) a fan := by first | exact HAT.out rfl | exact HAT.out trivial
        subst haa
        have HAF := Lib.hid haf
        have halt := HAF.out.at_
        simp only at halt
        obtain ⟨gk, ok, hgk, hck⟩ := rd_at HND.out.k ⟨#[]⟩ a halt
        have HKE : Hid (∀ V, Below w1.heap.size w1 V → V.cell? ⟨gk, ok + a, none⟩ = some (.string (nth ks a))) := Lib.hid (fun V h => by
          have h1 := hck a halt
          exact (h.cell (p := ⟨gk, ok + a, none⟩) (World.block_lt_of_cell? w1 _ h1)).trans h1)
        have HTB := Lib.hid (fun W (h : Below W11.heap.size W11 W) => iturn_of lv nx lo hi la ak11 av11 ac11 ck11 cv11 cc11 P3 V3 R3 a (nth ks a) true W (HY11.out.keep h) HAF.out.fit (by rw [nth_eq halt]; exact HFT.out.ks _ (List.getElem_mem _)) ⟨fun _ => HAF.out.turn, fun _ => rfl⟩)
        have HCKA := Lib.hid (fun W (h : Below W11.heap.size W11 W) => check_of lv nx lo hi la ak11 av11 ac11 P3.length ck11 V3.length cv11 R3.length cc11 P3 V3 R3 fan true W (HY11.out.keep h) HAF.out.fit ⟨fun _ => ⟨HFN.out, HAF.out.sound⟩, fun _ => rfl⟩)
        have hback := HAF.out.back
        simp only at hback
        rw [Int.toNat_natCast, hback] at HTB
        obtain ⟨E, hE⟩ : ∃ E, E = Nod.or true (⟨lv, nx, lo, hi, la, ks, vs, cs⟩ : Nod) := ⟨_, rfl⟩
        rw [← hE] at HTB
        have HEQ : Hid (E = (⟨lv, nx, lo, hi, la, ks, vs, cs⟩ : Nod)) := Lib.hid (by rw [hE]; rfl)
        generalize nth ks a = key at *
        have hai : (a : Int) < ks.length := by omega
        clear haf hback hE HAT hck
        have HNX := Lib.hid (HNB.out.below Hn_11.out)
        have HXX := HX11
        have HCC : Hid (∀ V, Below W11.heap.size W11 V → ((V.cell? ⟨w11.heap.size, 0, none⟩ = some (.int .i64 lv) ∧ V.cell? ⟨w11.heap.size, 1, none⟩ = some (.string lo) ∧ V.cell? ⟨w11.heap.size, 2, none⟩ = some (.string hi) ∧ V.cell? ⟨w11.heap.size, 3, none⟩ = some (.bool la) ∧ V.cell? ⟨w11.heap.size, 4, none⟩ = some (.int .i64 nx) ∧ V.cell? ⟨w11.heap.size, 5, none⟩ = some (.slice ak11 P3.length ck11) ∧ V.cell? ⟨w11.heap.size, 6, none⟩ = some (.slice av11 V3.length cv11) ∧ V.cell? ⟨w11.heap.size, 7, none⟩ = some (.slice ac11 R3.length cc11)) ∧ V.cell? ⟨w.heap.size, 5, none⟩ = some (.slice ak ks.length ck) ∧ V.cell? ⟨gk, ok + a, none⟩ = some (.string key)) ∧ Below W11.heap.size W11 V) := Lib.hid (fun V h => ⟨⟨(HXX.out.below h).cells, (HNX.out.below h).cells.2.2.2.2.2.1, HKE.out V (Hn_11.out.trans (h.mono Hn_11.out.size))⟩, h⟩)
        subst hgk
        go_upto_region 14 with fail
        go_cut [21, 22] (fun s21 s22 wx => Hid (s22 = .bool true ∧ InBox W11 wx s21 E))
        case first =>
          rename_i J1 K1 hJ1 hK1
          have hS0 := HCC.out W11.drew (Below.refl _ _).drew
          go_region_held_law (fun V => ((V.cell? ⟨w11.heap.size, 0, none⟩ = some (.int .i64 lv) ∧ V.cell? ⟨w11.heap.size, 1, none⟩ = some (.string lo) ∧ V.cell? ⟨w11.heap.size, 2, none⟩ = some (.string hi) ∧ V.cell? ⟨w11.heap.size, 3, none⟩ = some (.bool la) ∧ V.cell? ⟨w11.heap.size, 4, none⟩ = some (.int .i64 nx) ∧ V.cell? ⟨w11.heap.size, 5, none⟩ = some (.slice ak11 P3.length ck11) ∧ V.cell? ⟨w11.heap.size, 6, none⟩ = some (.slice av11 V3.length cv11) ∧ V.cell? ⟨w11.heap.size, 7, none⟩ = some (.slice ac11 R3.length cc11)) ∧ V.cell? ⟨w.heap.size, 5, none⟩ = some (.slice (some ⟨gk, ok, none⟩) ks.length ck) ∧ V.cell? ⟨gk, ok + a, none⟩ = some (.string key)) ∧ Below W11.heap.size W11 V)
            (first | (with_reducible exact hS0) | (with_reducible exact hS8) | ((with_reducible refine HCC.out _ ?_); repeat' (first | (with_reducible assumption) | (with_reducible exact Below.refl _ _) | (with_reducible refine Below.drew ?_) | (with_reducible refine Below.alloc ?_ ?_ _) | (with_reducible refine Below.setCell ?_ ?_ _) | omega | (simp <;> omega))))
            (first
              | (go_at_call 17; (with_reducible refine (HTB.out _ (And.right (by assumption))).mono ?_); rintro e w8 ⟨ak8, av8, ac8, ck8, cv8, cc8, rfl, hnd8, hb8, hfa, hfb, hfc⟩; have hB8 : Below W11.heap.size W11 w8 := Below.trans (And.right (by assumption)) (Below.mono hb8 (Below.size (And.right (by assumption)))); have hS8 := HCC.out _ hB8; have hzz8 := hB8.size; have HD8 := Lib.hid hnd8; clear hnd8; obtain ⟨hc8, hf8⟩ := bcell hb8; have hz8 := hb8.size; (try simp at hz8); (first | (have hx8 : W11.heap.size < w8.heap.size := by omega) | skip)))
          all_goals
            clear hc8 hf8
            refine hK1 _ _ (Met.intro (hJ1 _ _ ?_))
            (repeat apply Exists.intro)
            refine ⟨?_, rfl⟩
            refine Lib.hid ⟨rfl, ?_⟩
            (first
              | (with_reducible exact inBox_new HD8.out hB8)
              | ((with_reducible refine inBox_of ?_ ?_ ?_ HD8.out hfa hfb hfc hB8)
                 · repeat' (first | (with_reducible exact NB.new _ _) | (with_reducible refine NB.below ?_ hb8) | (with_reducible refine NB.drew8 ?_))
                 · simp
                 · simp))
        case rest =>
          obtain ⟨h22, g9, ak9, av9, ac9, ck9, cv9, cc9, h21, hnb9, hnd9, hb9⟩ := hcut.out
          subst h22
          subst h21
          have HX9 := Lib.hid hnb9
          have HY9 := Lib.hid hnd9
          have HA9 := Lib.hid hb9
          have HN9 := Lib.hid (Hn_11.out.trans (hb9.mono Hn_11.out.size))
          clear hcut hnb9 hnd9 hb9 HTB HCC HXX
          obtain ⟨t0, t1, t2, t3, t4, t5, t6, t7⟩ := (HX11.out.below HA9.out).cells
          have H9 : Hid (Below wc.heap.size wc wc) := Lib.hid (Below.refl _ _)
          go_wp2_with fail
          refine (HCKA.out _ HA9.out).mono ?_
          rintro e w32 ⟨c32, rfl, _, hc32, hb32⟩
          have Hn_32 := Lib.hid (HN9.out.trans (hb32.mono HN9.out.size))
          have HA_32 := Lib.hid (HA9.out.trans (hb32.mono HA9.out.size))
          have H9_32 := Lib.hid (H9.out.trans (hb32.mono H9.out.size))
          clear hb32 HN9 HA9 H9
          clear t0 t1 t2 t3 t4 t5 t6 t7
          obtain ⟨t0, t1, t2, t3, t4, t5, t6, t7⟩ := (HX9.out.below H9_32.out).cells
          obtain ⟨q0, q1, q2, q3, q4, q5, q6, q7⟩ := (HNB.out.below Hn_32.out).cells
          go_wp2_with fail
          refine (nsame_of E.lv E.nx E.lo E.hi E.la ak9 av9 ac9 E.ks.length ck9 E.vs.length cv9 E.cs.length cc9 lv nx lo hi la (some ⟨gk, ok, none⟩) av ac ks.length ck vs.length cv cs.length cc E.ks E.vs E.cs ks vs cs true _ (HY9.out.keep H9_32.out) (HND.out.keep Hn_32.out) ⟨fun _ => by rw [HEQ.out]; exact ⟨rfl, rfl, rfl, rfl, rfl, rfl, rfl, rfl⟩, fun _ => rfl⟩).mono ?_
          rintro e w33 ⟨rfl, hb33⟩
          have Hn_33 := Lib.hid (Hn_32.out.trans (hb33.mono Hn_32.out.size))
          have HA_33 := Lib.hid (HA_32.out.trans (hb33.mono HA_32.out.size))
          have H9_33 := Lib.hid (H9_32.out.trans (hb33.mono H9_32.out.size))
          clear hb33 Hn_32 HA_32 H9_32
          clear t0 t1 t2 t3 t4 t5 t6 t7 q0 q1 q2 q3 q4 q5 q6 q7
          have HE := Lib.hid (HB.out.trans (Hn_33.out.mono HB.out.size))
          go_wp2_with fail
          refine (HLV.out _).mono ?_
          rintro e wl ⟨rfl, hbl⟩
          have HBL := Lib.hid (HE.out.trans (hbl.mono HE.out.size))
          clear hbl
          go_wp2
          go_ret
          exact ⟨rfl, HBL.out⟩
end Go.Proofs.Ytjojfkddgdpnlaa
