/- node.soundKeys, soundEntries, Check: whether a node is sound. Condition: texts of at most 2^47 bytes, at most 2^38 keys. -/
import Derived.Test.YtgaacoeggikbpaaNodeSound
namespace Go.Proofs.Ytgaacoeggikbpaa
open Go.RowKit

/-- The keys, as they should be. -/
structure KeysP (lo hi : ByteArray) (la : Bool) (nk : Nat) (ks : List ByteArray) (fan : Int) : Prop where
  many : (nk : Int) ≤ fan
  rise : Rises ks
  inn : ∀ i, i < nk → insideB lo.data.toList hi.data.toList la (nth ks i).data.toList = true
/-- What comes with the keys, as it should be. -/
structure EntriesP (lv : Int) (lo : ByteArray) (nk nv nc : Nat) (ks : List ByteArray) (cs : List Int) : Prop where
  leaf : lv = 0 → nv = nk ∧ nc = 0 ∧ ∀ i, i < nk → keyB (nth ks i) = true
  inner : lv ≠ 0 → nc = nk ∧ nc ≠ 0 ∧ nv = 0 ∧ nth ks 0 = lo ∧ (∀ i, 0 < i → i < nk → keyB (nth ks i) = true) ∧ KidsP nc cs
structure SoundP (lv nx : Int) (lo hi : ByteArray) (la : Bool) (nk nv nc : Nat) (ks : List ByteArray) (cs : List Int) (fan : Int) : Prop where
  level : 0 ≤ lv ∧ lv < 14
  range : RangeP lo hi la nx
  keys : KeysP lo hi la nk ks fan
  entries : EntriesP lv lo nk nv nc ks cs

set_option maxHeartbeats 4000000 in
set_option maxRecDepth 100000 in
theorem soundKeys_any (lv nx : Int) (lo hi : ByteArray) (la : Bool) (ak av ac : Option Addr) (nk ck nv cv nc cc : Nat) (ks : List ByteArray) (fan : Int) (w : World) (hr : Rd w (.slice ak nk ck) (ks.map Value.string)) (hl : lo.size ≤ 140737488355328) (hh : hi.size ≤ 140737488355328) (hk : ∀ x ∈ ks, x.size ≤ 140737488355328) (hn : nk ≤ 274877906944) :
    Calls Try.prog 38 #[.agg #[.int .i64 lv, .string lo, .string hi, .bool la, .int .i64 nx, .slice ak nk ck, .slice av nv cv, .slice ac nc cc], .int .i64 fan] w fun e w' => EveryGives w w' e (KeysP lo hi la nk ks fan) := by
  have HB := Lib.hid (boxed_below w (.cells #[.int .i64 lv, .string lo, .string hi, .bool la, .int .i64 nx, .slice ak nk ck, .slice av nv cv, .slice ac nc cc] 38))
  have HNB := Lib.hid (NB.new w #[.int .i64 lv, .string lo, .string hi, .bool la, .int .i64 nx, .slice ak nk ck, .slice av nv cv, .slice ac nc cc])
  have hln := rd_len hr
  have hl2 := hln.2.1
  have hl3 := hln.2.2
  have HRI := Lib.hid (fun (r : Bool) (hu : r = true ↔ Rises ks) W (hb : Below w.heap.size w W) => rising_any (.slice ak nk ck) ks r W (hr.keep hb) hk (by omega) hu)
  have HEV := Lib.hid (fun W (hb : Below w.heap.size w W) hB => everyIn_any lv nx lo hi la ak av ac nk ck nv cv nc cc w.heap.size ks W (hr.keep hb) hB hl hh hk)
  clear hl hh hr hk hln
  by_cases h1 : fan < nk
  · have HN : Hid (¬ KeysP lo hi la nk ks fan) := Lib.hid (fun h => by have := h.many; omega)
    clear HRI HEV
    go_enter Try.func38, Try.ntmps38
    go_wp2
    go_ret
    exact ⟨false, rfl, ⟨fun h => (by cases h), fun h => absurd h HN.out⟩, HB.out⟩
  have h1' : ¬ (fan < (nk : Int)) := h1
  by_cases h2 : Rises ks
  · have HR1 := Lib.hid (HRI.out true ⟨fun _ => h2, fun _ => rfl⟩)
    have H2 := Lib.hid h2
    clear h2 HRI
    go_enter Try.func38, Try.ntmps38
    go_wp2_with fail
    refine (HR1.out _ HB.out).mono ?_
    rintro e w1 ⟨rfl, hd⟩
    have HB1 := Lib.hid (HB.out.trans (hd.below _))
    have HN1 := Lib.hid (HNB.out.below (hd.below _))
    clear hd
    obtain ⟨q0, q1, q2, q3, q4, q5, q6, q7⟩ := HN1.out.cells
    go_wp2_with fail
    refine (HEV.out _ HB1.out HN1.out).mono ?_
    rintro e w2 ⟨r, rfl, hr, hb2⟩
    have HR2 := Lib.hid hr
    have HB2 := Lib.hid (HB1.out.trans (hb2.mono HB1.out.size))
    clear hr hb2
    go_wp2
    go_ret
    exact ⟨r, rfl, ⟨fun h => ⟨by omega, H2.out, HR2.out.1 h⟩, fun h => HR2.out.2 h.inn⟩, HB2.out⟩
  · have HR1 := Lib.hid (HRI.out false ⟨fun h => (by cases h), fun h => absurd h h2⟩)
    have HN : Hid (¬ KeysP lo hi la nk ks fan) := Lib.hid (fun h => h2 h.rise)
    clear h2 HRI HEV
    go_enter Try.func38, Try.ntmps38
    go_wp2_with fail
    refine (HR1.out _ HB.out).mono ?_
    rintro e w1 ⟨rfl, hd⟩
    have HB1 := Lib.hid (HB.out.trans (hd.below _))
    clear hd
    go_wp2
    go_ret
    exact ⟨false, rfl, ⟨fun h => (by cases h), fun h => absurd h HN.out⟩, HB1.out⟩

theorem everyKey_of (ao : Option Addr) (n c : Nat) (ks : List ByteArray) (b : Bool) (w : World) (hr : Rd w (.slice ao n c) (ks.map Value.string)) (hb : b = true ↔ ∀ i, i < n → keyB (nth ks i) = true) :
    Calls Try.prog 66 #[.slice ao n c, .func (.func 63) #[] #[]] w fun e w' => e = .returned (.bool b) ∧ Drew w w' := by
  refine (everyKey_any ao n c ks w hr).mono ?_
  rintro e w' ⟨r, rfl, h, rfl⟩
  exact ⟨by rw [Bool.eq_iff_iff.2 (h.trans hb.symm)], Drew.refl _⟩
theorem areKids_of (ao : Option Addr) (n c : Nat) (zs : List Int) (b : Bool) (w : World) (hr : Rd w (.slice ao n c) (zs.map (Value.int .i64))) (hb : b = true ↔ KidsP n zs) :
    Calls Try.prog 68 #[.slice ao n c] w fun e w' => e = .returned (.bool b) ∧ Drew w w' := by
  refine (areKids_any ao n c zs w hr).mono ?_
  rintro e w' ⟨r, rfl, h, rfl⟩
  exact ⟨by rw [Bool.eq_iff_iff.2 (h.trans hb.symm)], Drew.refl _⟩
theorem nth_drop (ks : List ByteArray) (i : Nat) : nth (ks.drop 1) i = nth ks (i + 1) := by
  unfold nth
  rw [List.getD_eq_getElem?_getD, List.getD_eq_getElem?_getD, List.getElem?_drop, Nat.add_comm]
theorem bool_or (p : Prop) : ∃ b : Bool, b = true ↔ p := by
  by_cases h : p
  · exact ⟨true, fun _ => h, fun _ => rfl⟩
  · exact ⟨false, fun h => (by cases h), fun k => absurd k h⟩

set_option maxHeartbeats 4000000 in
set_option maxRecDepth 100000 in
theorem soundLeaf_any (lv nx : Int) (lo hi : ByteArray) (la : Bool) (ak av ac : Option Addr) (nk ck nv cv nc cc : Nat) (ks : List ByteArray) (cs : List Int) (w : World) (hr : Rd w (.slice ak nk ck) (ks.map Value.string)) (h0 : lv = 0) :
    Calls Try.prog 39 #[.agg #[.int .i64 lv, .string lo, .string hi, .bool la, .int .i64 nx, .slice ak nk ck, .slice av nv cv, .slice ac nc cc]] w fun e w' => EveryGives w w' e (EntriesP lv lo nk nv nc ks cs) := by
  subst h0
  have HB := Lib.hid (boxed_below w (.cells #[.int .i64 0, .string lo, .string hi, .bool la, .int .i64 nx, .slice ak nk ck, .slice av nv cv, .slice ac nc cc] 38))
  have hln := rd_len hr
  have hl3 := hln.2.2
  have hl2 := hln.2.1
  obtain ⟨b, hb⟩ := bool_or (∀ i, i < nk → keyB (nth ks i) = true)
  have HEV := Lib.hid (fun W (hB : Below w.heap.size w W) => everyKey_of ak nk ck ks b W (hr.keep hB) hb)
  have HBI := Lib.hid hb
  clear hr hln hb
  by_cases h1 : nv = nk
  · by_cases h2 : nc = 0
    · have g1 : ((nv : Int) == (nk : Int)) = true := by rw [h1]; simp
      have g2 : ((nc : Int) == 0) = true := by rw [h2]; rfl
      have HN : Hid (b = true ↔ EntriesP 0 lo nk nv nc ks cs) := Lib.hid ⟨fun h => ⟨fun _ => ⟨h1, h2, HBI.out.1 h⟩, fun h => absurd rfl h⟩, fun h => HBI.out.2 (h.leaf rfl).2.2⟩
      clear h1 h2
      go_enter Try.func39, Try.ntmps39
      go_wp2_with fail
      refine (HEV.out _ HB.out).mono ?_
      rintro e w1 ⟨rfl, hd⟩
      have HB1 := Lib.hid (HB.out.trans (hd.below _))
      clear hd
      go_wp2
      go_ret
      exact ⟨b, rfl, HN.out, HB1.out⟩
    · have g1 : ((nv : Int) == (nk : Int)) = true := by rw [h1]; simp
      have g2 : ((nc : Int) == 0) = false := beq_eq_false_iff_ne.2 (by omega)
      have HN : Hid (¬ EntriesP 0 lo nk nv nc ks cs) := Lib.hid (fun h => h2 (h.leaf rfl).2.1)
      clear h1 h2
      go_enter Try.func39, Try.ntmps39
      go_wp2
      go_ret
      exact ⟨false, rfl, ⟨fun h => (by cases h), fun h => absurd h HN.out⟩, HB.out⟩
  · have g1 : ((nv : Int) == (nk : Int)) = false := beq_eq_false_iff_ne.2 (by omega)
    have HN : Hid (¬ EntriesP 0 lo nk nv nc ks cs) := Lib.hid (fun h => h1 (h.leaf rfl).1)
    clear h1
    go_enter Try.func39, Try.ntmps39
    go_wp2
    go_ret
    exact ⟨false, rfl, ⟨fun h => (by cases h), fun h => absurd h HN.out⟩, HB.out⟩
end Go.Proofs.Ytgaacoeggikbpaa
