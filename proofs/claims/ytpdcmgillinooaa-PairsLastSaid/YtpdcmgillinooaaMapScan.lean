/- (*pairs.Map).Scan. Conditions: at most 2^37 pairs, keys of at most 2^47 bytes; the limit is an int. -/
import Derived.Test.YtpdcmgillinooaaMapPart
import Derived.Test.YtpdcmgillinooaaPairScan
namespace Go.Proofs.Ytpdcmgillinooaa
open Go.RowKit

theorem filter_none {ss : List (ByteArray × Int)} {P : ByteArray × Int → Bool} (h : ∀ i (hi : i < ss.length), P ss[i] = false) : ss.filter P = [] := by
  rw [List.filter_eq_nil_iff]
  intro p hp
  obtain ⟨i, hi, rfl⟩ := List.getElem_of_mem hp
  simp [h i hi]
theorem filter_all {ss : List (ByteArray × Int)} {P : ByteArray × Int → Bool} (h : ∀ i (hi : i < ss.length), P ss[i] = true) : ss.filter P = ss := by
  rw [List.filter_eq_self]
  intro p hp
  obtain ⟨i, hi, rfl⟩ := List.getElem_of_mem hp
  exact h i hi

/-- Those in a range stand one behind the other. -/
theorem filter_range {ss : List (ByteArray × Int)} {P : ByteArray × Int → Bool} (a b : Nat) (hb : b ≤ ss.length) (h : ∀ i (hi : i < ss.length), P ss[i] = decide (a ≤ i ∧ i < b)) : ss.filter P = (ss.drop a).take (b - a) := by
  have hs : ss = ss.take a ++ ((ss.drop a).take (b - a) ++ (ss.drop a).drop (b - a)) := by rw [List.take_append_drop, List.take_append_drop]
  have h1 : (ss.take a).filter P = [] := filter_none (fun i hi => by
    rw [List.length_take] at hi
    rw [List.getElem_take, h i (by omega)]
    simp; omega)
  have h2 : ((ss.drop a).take (b - a)).filter P = (ss.drop a).take (b - a) := filter_all (fun i hi => by
    rw [List.length_take, List.length_drop] at hi
    rw [List.getElem_take, List.getElem_drop, h (a + i) (by omega)]
    simp; omega)
  have h3 : ((ss.drop a).drop (b - a)).filter P = [] := filter_none (fun i hi => by
    rw [List.length_drop, List.length_drop] at hi
    rw [List.getElem_drop, List.getElem_drop, h (a + (b - a + i)) (by omega)]
    simp; omega)
  conv => lhs; rw [hs]
  rw [List.filter_append, List.filter_append, h1, h2, h3, List.nil_append, List.append_nil]

theorem scan_part {ss : List (ByteArray × Int)} {low high : ByteArray} {limit : Int} {a b : Nat} (ha : Edge (keysOf ss).length a (pFind (keysOf ss) low)) (hb : Edge (keysOf ss).length b (pFloor (keysOf ss) high)) :
    partP ss a (min limit ((b : Int) - a)).toNat = scanP ss low high limit := by
  rw [keysOf_len] at ha hb
  have hf : ss.filter (inR low high) = (ss.drop a).take (b - a) := filter_range a b hb.1 (fun i hi => by
    unfold inR
    have h1 : (!lss ss[i].1.data.toList low.data.toList) = decide (a ≤ i) := by
      by_cases h : a ≤ i
      · have := ha.2.2 i h hi
        unfold pFind at this
        rw [keysOf_at hi] at this
        rw [this]; simp [h]
      · have := ha.2.1 i (by omega)
        unfold pFind at this
        rw [keysOf_at hi] at this
        rw [this]; simp [h]
    have h2 : (!lss high.data.toList ss[i].1.data.toList) = decide (i < b) := by
      by_cases h : b ≤ i
      · have := hb.2.2 i h hi
        unfold pFloor at this
        rw [keysOf_at hi] at this
        rw [this]; simp; omega
      · have := hb.2.1 i (by omega)
        unfold pFloor at this
        rw [keysOf_at hi] at this
        rw [this]; simp; omega
    rw [h1, h2]
    by_cases e1 : a ≤ i <;> by_cases e2 : i < b <;> simp [e1, e2])
  unfold scanP partP
  rw [hf, List.take_take]
  congr 1
  omega

set_option maxHeartbeats 4000000 in
theorem mscan_any (B g : Nat) (kv vv : Value) (low high : ByteArray) (limit : Int) (ss : List (ByteArray × Int)) (w : World) (hm : MapAt w B g kv vv ss) (hf : Fine ss) (h1 : low.size ≤ 140737488355328) (h2 : high.size ≤ 140737488355328) (hb1 : -9223372036854775808 ≤ limit) (hb2 : limit ≤ 9223372036854775807) :
    Calls Try.prog 23 #[.pointer (some ⟨g, 0, none⟩), .string low, .string high, .int .i64 limit] w fun e w' => DelGives w w' e (scanP ss low high limit) := by
  have hx : ∀ x ∈ keysOf ss, x.size ≤ 140737488355328 := by
    intro x hx
    obtain ⟨p, hp, rfl⟩ := List.mem_map.1 hx
    exact hf.size p hp
  have hkl : (keysOf ss).length ≤ 274877906944 := by have := hf.len; rw [keysOf_len]; omega
  have hrd : ∀ W, MapAt W B g kv vv ss → Rd W kv (kcells ss) := fun W h => h.ks.rd (by have := hf.len; rw [kcells_len]; omega)
  have HF := Lib.hid (fun W (h : MapAt W B g kv vv ss) => find_any kv low (keysOf ss) W (hrd W h) h1 hx hkl hf.rises)
  have HG := Lib.hid (fun W (h : MapAt W B g kv vv ss) => floor_any kv high (keysOf ss) W (hrd W h) h2 hx hkl hf.rises)
  have HP := Lib.hid (fun W f c N (h : MapAt W B g kv vv ss) hc hff => mpart_any B g f N kv vv c ss W h hf.len hc hff)
  have HM := Lib.hid hm
  have hlen := hf.len
  obtain ⟨ao, hkv⟩ := hm.len
  subst hkv
  have c0 := hm.c0
  clear hm hf h1 h2 hx hkl hrd
  obtain ⟨n, hL⟩ : ∃ n, n = ss.length := ⟨_, rfl⟩
  have HLN := Lib.hid hL
  rw [← hL] at hlen c0 HM HF HG HP
  clear hL
  go_enter Try.func23, Try.ntmps23
  go_wp2_with fail
  refine (HF.out w HM.out).mono ?_
  rintro e w2 ⟨a, is, rfl, hE, _, hb⟩
  have HE := Lib.hid hE
  have M2 := Lib.hid (HM.out.keepB hb)
  have HB := Lib.hid hb
  have hal := hE.1
  rw [keysOf_len, ← HLN.out] at hal
  have c1 := M2.out.c0
  clear hE hb c0
  go_wp2_with fail
  refine (HG.out w2 M2.out).mono ?_
  rintro e w3 ⟨b, rfl, hE2, hb⟩
  have HE2 := Lib.hid hE2
  have M3 := Lib.hid (M2.out.keepB hb)
  have HB3 := Lib.hid (HB.out.trans (hb.mono HB.out.size))
  have hbl := hE2.1
  rw [keysOf_len, ← HLN.out] at hbl
  have hsp := scan_part (limit := limit) HE.out HE2.out
  have HSP := Lib.hid hsp
  clear hE2 hb c1 hsp
  have HC := Lib.hid (HP.out w3 a (min limit ((b : Int) - a)) (min limit ((b : Int) - a)).toNat M3.out (by have := HLN.out; omega) (by omega))
  by_cases hle : limit ≤ (b : Int) - a
  · have hmin : min limit ((b : Int) - a) = limit := by omega
    have HMIN := Lib.hid hmin
    clear hmin
    go_wp2_with fail
    all_goals first | (exfalso; omega) | skip
    have hC := HC.out
    rw [HSP.out, HMIN.out] at hC
    refine hC.mono ?_
    rintro e w4 ⟨v, rfl, hO, hb4⟩
    go_wp2
    go_ret
    exact ⟨_, rfl, hO.base HB3.out.size, HB3.out.trans (hb4.mono HB3.out.size)⟩
  · have hmin : min limit ((b : Int) - a) = (b : Int) - a := by omega
    have HMIN := Lib.hid hmin
    clear hmin
    go_wp2_with fail
    all_goals first | (exfalso; omega) | skip
    have hC := HC.out
    rw [HSP.out, HMIN.out] at hC
    refine hC.mono ?_
    rintro e w4 ⟨v, rfl, hO, hb4⟩
    go_wp2
    go_ret
    exact ⟨_, rfl, hO.base HB3.out.size, HB3.out.trans (hb4.mono HB3.out.size)⟩

theorem mscan_nil (low high : ByteArray) (limit : Int) (w : World) : Calls Try.prog 23 #[.pointer none, .string low, .string high, .int .i64 limit] w fun e w' => e = .returned (.slice none 0 0) ∧ w = w' := by
  go_enter Try.func23, Try.ntmps23
  go_wp2
  go_ret
  exact ⟨rfl, rfl⟩
end Go.Proofs.Ytpdcmgillinooaa
