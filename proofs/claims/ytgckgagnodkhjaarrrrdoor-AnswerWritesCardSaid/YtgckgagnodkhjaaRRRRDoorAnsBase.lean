/- The calls of answer: isText, all with its two closures, Name, Check, Of, Same; the document's Sound, Same, Name. Conditions: the table of names; rows that are there. -/
import Derived.Test.YtgckgagnodkhjaaRRRRDoorPairPut
import Derived.Test.YtgckgagnodkhjaaRRRRDoorOpCheck
import Derived.Lib.Hide
import Derived.Deep.RegionHeldLaw
import Derived.Deep.DeepCutAuto
namespace Go.Proofs.YtgckgagnodkhjaaRRRRDoor
open Go.RowKit

def txB (k : ByteArray) : Bool := decide (k.size ≤ 64)
def kB (k : Int) : Bool := decide (1 ≤ k ∧ k ≤ 6)
/-- Is an answer sound? -/
def ansSoundB (k : Int) (key : ByteArray) (ps : List (ByteArray × Int)) : Bool := kB k && txB key && decide (ps.length ≤ 4096) && ps.all fun p => txB p.1
def ansName (k : Int) : ByteArray := if k = 1 then ⟨#[100, 111, 110, 101]⟩ else if k = 2 then ⟨#[110, 111, 110, 101]⟩ else if k = 3 then ⟨#[116, 104, 101, 114, 101]⟩ else if k = 4 then ⟨#[111, 116, 104, 101, 114]⟩ else if k = 5 then ⟨#[98, 97, 100]⟩ else if k = 6 then ⟨#[115, 104, 111, 114, 116]⟩ else ⟨#[]⟩
theorem kinds17 (k : Int) : k = 1 ∨ k = 2 ∨ k = 3 ∨ k = 4 ∨ k = 5 ∨ k = 6 ∨ (k < 1 ∨ 6 < k) := by omega
/-- The table of names, in its place. -/
def NamesAt17 (w : World) : Prop := (w.cell? ⟨0, 0, none⟩ = some (.string ⟨#[]⟩) ∧ w.cell? ⟨0, 1, none⟩ = some (.string ⟨#[100, 111, 110, 101]⟩) ∧ w.cell? ⟨0, 2, none⟩ = some (.string ⟨#[110, 111, 110, 101]⟩) ∧ w.cell? ⟨0, 3, none⟩ = some (.string ⟨#[116, 104, 101, 114, 101]⟩) ∧ w.cell? ⟨0, 4, none⟩ = some (.string ⟨#[111, 116, 104, 101, 114]⟩) ∧ w.cell? ⟨0, 5, none⟩ = some (.string ⟨#[98, 97, 100]⟩) ∧ w.cell? ⟨0, 6, none⟩ = some (.string ⟨#[115, 104, 111, 114, 116]⟩)) ∧ 0 < w.heap.size
theorem NamesAt17.below {w w' : World} (h : NamesAt17 w) (hb : Below w.heap.size w w') : NamesAt17 w' := by
  have e : ∀ i : Nat, w'.cell? ⟨0, i, none⟩ = w.cell? ⟨0, i, none⟩ := fun i => World.cell?_of_block (w := w) (hb.block 0 h.2)
  have hs := hb.size
  obtain ⟨⟨h0, h1, h2, h3, h4, h5, h6⟩, hp⟩ := h
  exact ⟨⟨(e 0).trans h0, (e 1).trans h1, (e 2).trans h2, (e 3).trans h3, (e 4).trans h4, (e 5).trans h5, (e 6).trans h6⟩, by omega⟩

theorem isText_any (k : ByteArray) (w : World) : Calls Tryd.prog 21 #[.string k] w fun e w' => e = .returned (.bool (txB k)) ∧ w = w' := by
  by_cases h : k.size ≤ 64
  · have g : (k.size : Int) ≤ 64 := by omega
    rw [show txB k = true by unfold txB; rw [decide_eq_true_iff]; exact h]
    clear h
    go_enter Tryd.func21, Tryd.ntmps21
    go_wp2
    go_ret
    exact ⟨rfl, rfl⟩
  · have g : ¬ (k.size : Int) ≤ 64 := by omega
    rw [show txB k = false by unfold txB; rw [decide_eq_false_iff_not]; exact h]
    clear h
    go_enter Tryd.func21, Tryd.ntmps21
    go_wp2
    go_ret
    exact ⟨rfl, rfl⟩

set_option maxHeartbeats 4000000 in
set_option maxRecDepth 100000 in
theorem ansName_any (k : Int) (w : World) (ht : NamesAt17 w) : Calls Tryd.prog 12 #[.int .i64 k] w fun e w' => e = .returned (.string (ansName k)) ∧ w = w' := by
  obtain ⟨⟨h0, h1, h2, h3, h4, h5, h6⟩, hp⟩ := ht
  clear hp
  by_cases hz : k = 0
  · subst hz
    go_enter Tryd.func12, Tryd.ntmps12
    go_wp2
    go_ret
    exact ⟨rfl, rfl⟩
  rcases kinds17 k with rfl | rfl | rfl | rfl | rfl | rfl | h
  case inr.inr.inr.inr.inr.inr =>
    have hn : ansName k = ⟨#[]⟩ := by
      unfold ansName
      rw [if_neg (by omega), if_neg (by omega), if_neg (by omega), if_neg (by omega), if_neg (by omega), if_neg (by omega)]
    rw [hn]
    clear hn
    by_cases hl : k < 0
    · clear hz h
      go_enter Tryd.func12, Tryd.ntmps12
      go_wp2
      go_ret
      exact ⟨rfl, rfl⟩
    · have hg : 7 ≤ k := by omega
      clear hz h
      go_enter Tryd.func12, Tryd.ntmps12
      go_wp2
      go_ret
      exact ⟨rfl, rfl⟩
  all_goals
    clear hz
    go_enter Tryd.func12, Tryd.ntmps12
    go_wp2
    go_ret
    exact ⟨rfl, rfl⟩

set_option maxHeartbeats 4000000 in
set_option maxRecDepth 100000 in
theorem ransName_any (k : Int) (w : World) : Calls Tryd.prog 13 #[.int .i64 k] w fun e w' => e = .returned (.string (ansName k)) ∧ Below w.heap.size w w' := by
  by_cases hz : k = 0
  · subst hz
    go_enter Tryd.func13, Tryd.ntmps13
    go_wp2
    go_ret
    exact ⟨rfl, boxed_below _ _⟩
  rcases kinds17 k with rfl | rfl | rfl | rfl | rfl | rfl | h
  case inr.inr.inr.inr.inr.inr =>
    have hn : ansName k = ⟨#[]⟩ := by
      unfold ansName
      rw [if_neg (by omega), if_neg (by omega), if_neg (by omega), if_neg (by omega), if_neg (by omega), if_neg (by omega)]
    rw [hn]
    clear hn
    by_cases hl : k < 0
    · clear hz h
      go_enter Tryd.func13, Tryd.ntmps13
      go_wp2
      go_ret
      exact ⟨rfl, boxed_below _ _⟩
    · have hg : 7 ≤ k := by omega
      clear hz h
      go_enter Tryd.func13, Tryd.ntmps13
      go_wp2
      go_ret
      exact ⟨rfl, boxed_below _ _⟩
  all_goals
    clear hz
    go_enter Tryd.func13, Tryd.ntmps13
    go_wp2
    go_ret
    exact ⟨rfl, boxed_below _ _⟩

theorem bool_no17 {b : Bool} {p : Prop} (h : b = true ↔ p) (hn : ¬ p) : b = false := by
  cases b with
  | false => rfl
  | true => exact absurd (h.1 rfl) hn
theorem bool_or17 (p : Prop) : ∃ b : Bool, b = true ↔ p := by
  classical
  exact ⟨decide p, by rw [decide_eq_true_iff]⟩

set_option maxHeartbeats 1000000 in
theorem checkIn_any (A : Nat) (k v : Int) (key : ByteArray) (s : Value) (ps : List (ByteArray × Int)) (i : Nat) (w : World) (hb : BX w A 25 #[.int .i64 k, .string key, .int .u64 v, s]) (hr : RdP w s ps) (hi : i < ps.length) :
    Calls Tryd.prog 20 #[.int .i64 (i : Nat), .pointer (some ⟨A, 0, none⟩)] w fun e w' => e = .returned (.bool (txB (ntp ps i).1)) ∧ w = w' := by
  obtain ⟨ao, c, rfl⟩ := hr.open
  obtain ⟨g, o, rfl, hc⟩ := hr.at_ i hi
  have c3 : w.cell? ⟨A, 3, none⟩ = some (.slice (some ⟨g, o, none⟩) ps.length c) := hb.cell 3 rfl
  have hc1 := (hc i hi).1
  have HT := Lib.hid (fun W => isText_any (ntp ps i).1 W)
  have g1 : (i : Int) < ps.length := by omega
  clear hc hb hr
  generalize ntp ps i = p at *
  obtain ⟨s, z⟩ := p
  simp only at hc1 HT ⊢
  generalize txB s = b at *
  generalize ps.length = n at *
  go_enter Tryd.func20, Tryd.ntmps20
  go_wp2_with fail
  refine (HT.out _).mono ?_
  rintro e w1 ⟨rfl, rfl⟩
  go_wp2
  go_ret
  exact ⟨rfl, rfl⟩

set_option maxHeartbeats 1000000 in
theorem sameIn_any (A B : Nat) (k v k2 v2 : Int) (key key2 : ByteArray) (s s2 : Value) (ps qs : List (ByteArray × Int)) (i : Nat) (b : Bool) (w : World) (hb : BX w A 25 #[.int .i64 k, .string key, .int .u64 v, s]) (hb2 : BX w B 25 #[.int .i64 k2, .string key2, .int .u64 v2, s2]) (hr : RdP w s ps) (hr2 : RdP w s2 qs) (hi : i < ps.length) (hi2 : i < qs.length) (hbb : b = true ↔ ntp ps i = ntp qs i) :
    Calls Tryd.prog 24 #[.int .i64 (i : Nat), .pointer (some ⟨A, 0, none⟩), .pointer (some ⟨B, 0, none⟩)] w fun e w' => e = .returned (.bool b) ∧ Drew w w' := by
  obtain ⟨ao, c, rfl⟩ := hr.open
  obtain ⟨ao2, cc, rfl⟩ := hr2.open
  obtain ⟨g, o, rfl, hc⟩ := hr.at_ i hi
  obtain ⟨g2, o2, rfl, hd⟩ := hr2.at_ i hi2
  have c3 : w.cell? ⟨A, 3, none⟩ = some (.slice (some ⟨g, o, none⟩) ps.length c) := hb.cell 3 rfl
  have d3 : w.cell? ⟨B, 3, none⟩ = some (.slice (some ⟨g2, o2, none⟩) qs.length cc) := hb2.cell 3 rfl
  have c1 := (hc i hi).1
  have c2 := (hc i hi).2
  have d1 := (hd i hi2).1
  have d2 := (hd i hi2).2
  have g1 : (i : Int) < ps.length := by omega
  have g2' : (i : Int) < qs.length := by omega
  have HBB := Lib.hid hbb
  clear hc hd hb hb2 hr hr2 hbb hi hi2
  generalize ntp ps i = p at *
  generalize ntp qs i = q at *
  generalize ps.length = n at *
  generalize qs.length = m at *
  obtain ⟨s, z⟩ := p
  obtain ⟨s2, z2⟩ := q
  simp only at c1 c2 d1 d2
  by_cases he : s = s2
  · by_cases hz : z = z2
    · subst he; subst hz
      have hbt := HBB.out.2 rfl
      subst hbt
      clear HBB
      go_enter Tryd.func24, Tryd.ntmps24
      go_wp2
      go_quiet (fail)
      go_wp2
      go_ret
      exact ⟨rfl, ⟨_, rfl⟩⟩
    · subst he
      have h2 : (z == z2) = false := by rw [beq_eq_false_iff_ne]; exact hz
      have HF : Hid (b = false) := Lib.hid (bool_no17 HBB.out (fun h => hz (Prod.mk.inj h).2))
      clear HBB hz
      go_enter Tryd.func24, Tryd.ntmps24
      go_wp2
      go_quiet (fail)
      go_wp2
      go_ret
      exact ⟨by rw [HF.out]; rfl, ⟨_, rfl⟩⟩
  · have h1 := txt_ne he
    have HF : Hid (b = false) := Lib.hid (bool_no17 HBB.out (fun h => he (Prod.mk.inj h).1))
    clear HBB he
    go_enter Tryd.func24, Tryd.ntmps24
    go_wp2
    go_quiet (fail)
    go_wp2
    go_ret
    exact ⟨by rw [HF.out]; rfl, ⟨_, rfl⟩⟩

set_option maxHeartbeats 1000000 in
set_option maxRecDepth 100000 in
theorem allCheck_any (A : Nat) (k v : Int) (key : ByteArray) (s : Value) (ps : List (ByteArray × Int)) (n : Nat) (w : World) (hb : BX w A 25 #[.int .i64 k, .string key, .int .u64 v, s]) (hr : RdP w s ps) (hn : n = ps.length) :
    Calls Tryd.prog 22 #[.int .i64 (n : Nat), .func (.func 20) #[] #[.pointer (some ⟨A, 0, none⟩)]] w fun e w' => e = .returned (.bool (ps.all fun p => txB p.1)) ∧ w = w' := by
  have hl : n ≤ 9223372036854775807 := by obtain ⟨ao, c, rfl⟩ := hr.open; have := hr.len; omega
  have HK := Lib.hid (fun i hi => checkIn_any A k v key s ps i w hb hr hi)
  have HT : Hid ((∀ j, j < n → txB (ntp ps j).1 = true) → (ps.all fun p => txB p.1) = true) := Lib.hid (fun h => by
    rw [List.all_eq_true]
    intro p hp
    obtain ⟨i, hi, rfl⟩ := List.getElem_of_mem hp
    have := h i (by omega)
    rwa [ntp_eq hi] at this)
  have HF : Hid (∀ i, i < n → txB (ntp ps i).1 = false → (ps.all fun p => txB p.1) = false) := Lib.hid (fun i hi h => by
    rw [List.all_eq_false]
    refine ⟨ps[i]'(by omega), List.getElem_mem _, ?_⟩
    rw [ntp_eq (by omega)] at h
    rw [h]; exact Bool.noConfusion)
  have HN := Lib.hid hn
  clear hb hr hn
  generalize (ps.all fun p => txB p.1) = r at *
  go_enter Tryd.func22, Tryd.ntmps22
  go_wp2
  go_loopw [7] (fun s wr => ∃ i : Nat, s = .int .i64 i ∧ i ≤ n ∧ Hid (w = wr) ∧ Hid (∀ j, j < i → txB (ntp ps j).1 = true)) (fun s _ => n - (intOf s).toNat)
  case atStart => exact ⟨0, rfl, Nat.zero_le _, Lib.hid rfl, Lib.hid (fun j hj => absurd hj (Nat.not_lt_zero _))⟩
  case round =>
    obtain ⟨i, rfl, hi, hwr, hall⟩ := hrel
    have hwe := hwr.out
    subst hwe
    clear hwr
    by_cases hlt : i < n
    · have HK1 := Lib.hid (HK.out i (by have := HN.out; omega))
      have hlt' : (i : Int) < n := by omega
      cases hk : txB (ntp ps i).1 with
      | true =>
        rw [hk] at HK1
        have HNX : Hid (∀ j, j < i + 1 → txB (ntp ps j).1 = true) := Lib.hid (fun j hj => by
          by_cases e : j = i
          · subst e; exact hk
          · exact hall.out j (by omega))
        clear hk
        go_wp2_with fail
        refine HK1.out.mono ?_
        rintro e w1 ⟨rfl, rfl⟩
        go_wp2
        go_roundw
        case rel => exact ⟨i + 1, by go_num, by omega, Lib.hid (by trivial), HNX⟩
        case measure => simp [intOf]; omega
      | false =>
        rw [hk] at HK1
        have HNX := Lib.hid (HF.out i hlt hk)
        clear hk
        go_wp2_with fail
        refine HK1.out.mono ?_
        rintro e w1 ⟨rfl, rfl⟩
        go_wp2
        go_ret
        exact ⟨by rw [HNX.out]; rfl, rfl⟩
    · obtain rfl : i = n := by omega
      have HNX := Lib.hid (HT.out hall.out)
      go_wp2
      go_ret
      exact ⟨by rw [HNX.out]; rfl, rfl⟩

set_option maxHeartbeats 1000000 in
set_option maxRecDepth 100000 in
theorem allSame_any (A B : Nat) (k v k2 v2 : Int) (key key2 : ByteArray) (s s2 : Value) (ps qs : List (ByteArray × Int)) (n : Nat) (b : Bool) (w : World) (hb : BX w A 25 #[.int .i64 k, .string key, .int .u64 v, s]) (hb2 : BX w B 25 #[.int .i64 k2, .string key2, .int .u64 v2, s2]) (hr : RdP w s ps) (hr2 : RdP w s2 qs) (hn : n = ps.length) (hm : n = qs.length) (hbb : b = true ↔ ps = qs) :
    Calls Tryd.prog 22 #[.int .i64 (n : Nat), .func (.func 24) #[] #[.pointer (some ⟨A, 0, none⟩), .pointer (some ⟨B, 0, none⟩)]] w fun e w' => e = .returned (.bool b) ∧ Drew w w' := by
  have hl : n ≤ 9223372036854775807 := by obtain ⟨ao, c, rfl⟩ := hr.open; have := hr.len; omega
  have HK : Hid (∀ W i (h1 : i < n) d, Drew w W → (d = true ↔ ntp ps i = ntp qs i) → Calls Tryd.prog 24 #[.int .i64 (i : Nat), .pointer (some ⟨A, 0, none⟩), .pointer (some ⟨B, 0, none⟩)] W fun e w' => e = .returned (.bool d) ∧ Drew W w') := Lib.hid (fun W i h1 d hD hd => by
    have hB := below_of_drew hD w.heap.size
    exact sameIn_any A B k v k2 v2 key key2 s s2 ps qs i d W (hb.below hB) (hb2.below hB) (hr.keep hB) (hr2.keep hB) (by omega) (by omega) hd)
  have HT : Hid ((∀ j, j < n → ntp ps j = ntp qs j) → b = true) := Lib.hid (fun h => hbb.2 (ntp_ext (by omega) (fun j hj => h j (by omega))))
  have HF : Hid (∀ i, i < n → ¬ ntp ps i = ntp qs i → b = false) := Lib.hid (fun i hi h => bool_no17 hbb (fun e => h (by rw [e])))
  clear hb hb2 hr hr2 hn hm hbb
  go_enter Tryd.func22, Tryd.ntmps22
  go_wp2
  go_loopw [7] (fun s wr => ∃ i : Nat, s = .int .i64 i ∧ i ≤ n ∧ Hid (Drew w wr) ∧ Hid (∀ j, j < i → ntp ps j = ntp qs j)) (fun s _ => n - (intOf s).toNat)
  case atStart => exact ⟨0, rfl, Nat.zero_le _, Lib.hid (Drew.refl _), Lib.hid (fun j hj => absurd hj (Nat.not_lt_zero _))⟩
  case round =>
    obtain ⟨i, rfl, hi, hwr, hall⟩ := hrel
    by_cases hlt : i < n
    · obtain ⟨d, hd⟩ := bool_or17 (ntp ps i = ntp qs i)
      have HK1 := Lib.hid (HK.out wr i hlt d hwr.out hd)
      have hlt' : (i : Int) < n := by omega
      cases d with
      | true =>
        have HNX : Hid (∀ j, j < i + 1 → ntp ps j = ntp qs j) := Lib.hid (fun j hj => by
          by_cases e : j = i
          · subst e; exact hd.1 rfl
          · exact hall.out j (by omega))
        clear hd
        go_wp2_with fail
        refine HK1.out.mono ?_
        rintro e w1 ⟨rfl, hdw⟩
        have HD := Lib.hid (hwr.out.trans hdw)
        clear hdw
        go_wp2
        go_roundw
        case rel => exact ⟨i + 1, by go_num, by omega, HD, HNX⟩
        case measure => simp [intOf]; omega
      | false =>
        have HNX := Lib.hid (HF.out i hlt (fun e => by have := hd.2 e; cases this))
        clear hd
        go_wp2_with fail
        refine HK1.out.mono ?_
        rintro e w1 ⟨rfl, hdw⟩
        have HD := Lib.hid (hwr.out.trans hdw)
        clear hdw
        go_wp2
        go_ret
        exact ⟨by rw [HNX.out]; rfl, HD.out⟩
    · obtain rfl : i = n := by omega
      have HNX := Lib.hid (HT.out hall.out)
      go_wp2
      go_ret
      exact ⟨by rw [HNX.out]; rfl, hwr.out⟩

end Go.Proofs.YtgckgagnodkhjaaRRRRDoor
