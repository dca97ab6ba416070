/- (*pairs.Map).pick with the closures of Next, Prev, Min and Max: the pair at the place that they tell. No condition. -/
import Derived.Test.YtpdcmgillinooaaMapPut
import Derived.BigRegion
import Derived.Deep.QuietTactic
import Derived.BigQuiet
namespace Go.Proofs.Ytpdcmgillinooaa
open Go.RowKit

/-- The pair at a place, if there is one. -/
def atP (ss : List (ByteArray × Int)) (a : Int) : Option (ByteArray × Int) := if 0 ≤ a ∧ a < ss.length then some (ntp ss a.toNat) else none

def PickGives (w w' : World) (e : Ending) (ss : List (ByteArray × Int)) (Q : Int → Prop) : Prop := ∃ a, Q a ∧ SelGives w w' e (atP ss a)

/-- A place told by a closure. -/
def PlaceGives (w w' : World) (e : Ending) (Q : Int → Prop) : Prop := ∃ a : Int, e = .returned (.int .i64 a) ∧ (-1 ≤ a ∧ a ≤ 137438953472) ∧ Q a ∧ Below w.heap.size w w'

theorem Two.alloc (w : World) : Two (w.alloc (.cells #[.string ⟨#[]⟩, .int .u64 0] 40)) w.heap.size (⟨#[]⟩, 0) := heap_alloc_new _ _
theorem Two.keep {w w' : World} {g : Nat} {p : ByteArray × Int} (h : Two w g p) (hb : Below w.heap.size w w') : Two w' g p := by
  unfold Two at *
  rw [hb.block g (lt_of_block h)]
  exact h

set_option maxHeartbeats 4000000 in
set_option maxRecDepth 100000 in
theorem pickNext_any (B g : Nat) (cb : Nat) (kv vv : Value) (ss : List (ByteArray × Int)) (Q : Int → Prop) (w : World) (hm : MapAt w B g kv vv ss)
    (hc : Calls Try.prog 38 #[kv, .pointer (some ⟨cb, 0, none⟩)] (w.alloc (.cells #[.string ⟨#[]⟩, .int .u64 0] 40)) fun e w' => PlaceGives (w.alloc (.cells #[.string ⟨#[]⟩, .int .u64 0] 40)) w' e Q) :
    Calls Try.prog 37 #[.pointer (some ⟨g, 0, none⟩), (.func (.func 38) #[] #[.pointer (some ⟨cb, 0, none⟩)])] w fun e w' => PickGives w w' e ss Q := by
  have HC := Lib.hid hc
  have hb0 := (one_alloc w (.cells #[.string ⟨#[]⟩, .int .u64 0] 40)).2
  have M1 := hm.keepB hb0
  have HM := Lib.hid M1
  have HB0 := Lib.hid hb0
  have c0 := M1.c0
  obtain ⟨ao, hkv⟩ := M1.ks.open
  rw [kcells_len] at hkv
  subst hkv
  obtain ⟨bo, hvv⟩ := M1.vs.open
  rw [vcells_len] at hvv
  subst hvv
  clear hm hc hb0 M1
  obtain ⟨n, hL⟩ : ∃ n, n = ss.length := ⟨_, rfl⟩
  rw [← hL] at HM HC c0
  have HLN := Lib.hid hL
  clear hL
  go_enter Try.func37, Try.ntmps37
  go_wp2_with fail
  refine HC.out.mono ?_
  rintro e w2 ⟨a, rfl, ⟨ha1, ha2⟩, hQ, hb⟩
  have HQ := Lib.hid hQ
  have HM2 := Lib.hid (HM.out.keepB hb)
  have T2 := Lib.hid ((Two.alloc w).keep hb)
  have HB := Lib.hid (HB0.out.trans (hb.mono HB0.out.size))
  clear hb hQ c0
  have c0 := HM2.out.c0
  have t0 := T2.out.c0
  have t1 := T2.out.c1
  have f0 := T2.out.f (i := 0)
  have f1 := T2.out.f (i := 1)
  by_cases h0 : a < 0
  · have HN : Hid (atP ss a = none) := Lib.hid (by unfold atP; rw [if_neg (by omega)])
    have z0 := (T2.out.set (q := (⟨#[]⟩, 0))).c0
    have z1 := (T2.out.set (q := (⟨#[]⟩, 0))).c1
    go_wp2
    refine bodyPost_ret (v := .tuple #[.agg #[.string ⟨#[]⟩, .int .u64 0], .bool false]) (by simp [results, Try.results37, go_sem, z0, z1]) rfl ⟨a, HQ.out, false, (⟨#[]⟩, 0), rfl, Or.inl ⟨rfl, rfl, HN.out⟩, ?_⟩
    exact (HB.out.setCell (by simp) _).setCell (by simp) _
  · by_cases h1 : a < n
    · obtain ⟨i, rfl⟩ : ∃ i : Nat, a = i := ⟨a.toNat, by omega⟩
      have hi : i < ss.length := by rw [← HLN.out]; omega
      obtain ⟨kb, hkb, hkh, hkc⟩ := HM2.out.ks.str i hi
      obtain ⟨vb, hvb, hvh, hvc⟩ := HM2.out.vs.u64 i hi
      have h3 : ao = some ⟨kb, 0, none⟩ := by injection hkb
      have h4 : bo = some ⟨vb, 0, none⟩ := by injection hvb
      subst h3 h4
      have d1 := HM2.out.c1
      have HN : Hid (atP ss i = some (ntp ss i)) := Lib.hid (by unfold atP; rw [if_pos (by omega)]; rfl)
      clear hkb hkh hvb hvh hi
      generalize ntp ss i = p at *
      have HT3 := Lib.hid (T2.out.set (q := p))
      go_wp2
      go_region
      all_goals
        go_wp2
        have z0 : ((w2.setCell ⟨w.heap.size, 0, none⟩ (.string p.1)).setCell ⟨w.heap.size, 1, none⟩ (.int .u64 p.2)).drew.cell? ⟨w.heap.size, 0, none⟩ = some (.string p.1) := HT3.out.c0
        have z1 : ((w2.setCell ⟨w.heap.size, 0, none⟩ (.string p.1)).setCell ⟨w.heap.size, 1, none⟩ (.int .u64 p.2)).drew.cell? ⟨w.heap.size, 1, none⟩ = some (.int .u64 p.2) := HT3.out.c1
        refine bodyPost_ret (v := .tuple #[.agg #[.string p.1, .int .u64 p.2], .bool true]) (by simp [results, Try.results37, go_sem, z0, z1]) rfl ⟨i, HQ.out, true, p, rfl, Or.inr ⟨rfl, HN.out⟩, ?_⟩
        exact ((HB.out.setCell (by simp) _).setCell (by simp) _).drew
    · have HN : Hid (atP ss a = none) := Lib.hid (by unfold atP; rw [if_neg (by have := HLN.out; omega)])
      have z0 := (T2.out.set (q := (⟨#[]⟩, 0))).c0
      have z1 := (T2.out.set (q := (⟨#[]⟩, 0))).c1
      go_wp2
      refine bodyPost_ret (v := .tuple #[.agg #[.string ⟨#[]⟩, .int .u64 0], .bool false]) (by simp [results, Try.results37, go_sem, z0, z1]) rfl ⟨a, HQ.out, false, (⟨#[]⟩, 0), rfl, Or.inl ⟨rfl, rfl, HN.out⟩, ?_⟩
      exact (HB.out.setCell (by simp) _).setCell (by simp) _

set_option maxHeartbeats 4000000 in
set_option maxRecDepth 100000 in
theorem pickPrev_any (B g : Nat) (cb : Nat) (kv vv : Value) (ss : List (ByteArray × Int)) (Q : Int → Prop) (w : World) (hm : MapAt w B g kv vv ss)
    (hc : Calls Try.prog 42 #[kv, .pointer (some ⟨cb, 0, none⟩)] (w.alloc (.cells #[.string ⟨#[]⟩, .int .u64 0] 40)) fun e w' => PlaceGives (w.alloc (.cells #[.string ⟨#[]⟩, .int .u64 0] 40)) w' e Q) :
    Calls Try.prog 37 #[.pointer (some ⟨g, 0, none⟩), (.func (.func 42) #[] #[.pointer (some ⟨cb, 0, none⟩)])] w fun e w' => PickGives w w' e ss Q := by
  have HC := Lib.hid hc
  have hb0 := (one_alloc w (.cells #[.string ⟨#[]⟩, .int .u64 0] 40)).2
  have M1 := hm.keepB hb0
  have HM := Lib.hid M1
  have HB0 := Lib.hid hb0
  have c0 := M1.c0
  obtain ⟨ao, hkv⟩ := M1.ks.open
  rw [kcells_len] at hkv
  subst hkv
  obtain ⟨bo, hvv⟩ := M1.vs.open
  rw [vcells_len] at hvv
  subst hvv
  clear hm hc hb0 M1
  obtain ⟨n, hL⟩ : ∃ n, n = ss.length := ⟨_, rfl⟩
  rw [← hL] at HM HC c0
  have HLN := Lib.hid hL
  clear hL
  go_enter Try.func37, Try.ntmps37
  go_wp2_with fail
  refine HC.out.mono ?_
  rintro e w2 ⟨a, rfl, ⟨ha1, ha2⟩, hQ, hb⟩
  have HQ := Lib.hid hQ
  have HM2 := Lib.hid (HM.out.keepB hb)
  have T2 := Lib.hid ((Two.alloc w).keep hb)
  have HB := Lib.hid (HB0.out.trans (hb.mono HB0.out.size))
  clear hb hQ c0
  have c0 := HM2.out.c0
  have t0 := T2.out.c0
  have t1 := T2.out.c1
  have f0 := T2.out.f (i := 0)
  have f1 := T2.out.f (i := 1)
  by_cases h0 : a < 0
  · have HN : Hid (atP ss a = none) := Lib.hid (by unfold atP; rw [if_neg (by omega)])
    have z0 := (T2.out.set (q := (⟨#[]⟩, 0))).c0
    have z1 := (T2.out.set (q := (⟨#[]⟩, 0))).c1
    go_wp2
    refine bodyPost_ret (v := .tuple #[.agg #[.string ⟨#[]⟩, .int .u64 0], .bool false]) (by simp [results, Try.results37, go_sem, z0, z1]) rfl ⟨a, HQ.out, false, (⟨#[]⟩, 0), rfl, Or.inl ⟨rfl, rfl, HN.out⟩, ?_⟩
    exact (HB.out.setCell (by simp) _).setCell (by simp) _
  · by_cases h1 : a < n
    · obtain ⟨i, rfl⟩ : ∃ i : Nat, a = i := ⟨a.toNat, by omega⟩
      have hi : i < ss.length := by rw [← HLN.out]; omega
      obtain ⟨kb, hkb, hkh, hkc⟩ := HM2.out.ks.str i hi
      obtain ⟨vb, hvb, hvh, hvc⟩ := HM2.out.vs.u64 i hi
      have h3 : ao = some ⟨kb, 0, none⟩ := by injection hkb
      have h4 : bo = some ⟨vb, 0, none⟩ := by injection hvb
      subst h3 h4
      have d1 := HM2.out.c1
      have HN : Hid (atP ss i = some (ntp ss i)) := Lib.hid (by unfold atP; rw [if_pos (by omega)]; rfl)
      clear hkb hkh hvb hvh hi
      generalize ntp ss i = p at *
      have HT3 := Lib.hid (T2.out.set (q := p))
      go_wp2
      go_region
      all_goals
        go_wp2
        have z0 : ((w2.setCell ⟨w.heap.size, 0, none⟩ (.string p.1)).setCell ⟨w.heap.size, 1, none⟩ (.int .u64 p.2)).drew.cell? ⟨w.heap.size, 0, none⟩ = some (.string p.1) := HT3.out.c0
        have z1 : ((w2.setCell ⟨w.heap.size, 0, none⟩ (.string p.1)).setCell ⟨w.heap.size, 1, none⟩ (.int .u64 p.2)).drew.cell? ⟨w.heap.size, 1, none⟩ = some (.int .u64 p.2) := HT3.out.c1
        refine bodyPost_ret (v := .tuple #[.agg #[.string p.1, .int .u64 p.2], .bool true]) (by simp [results, Try.results37, go_sem, z0, z1]) rfl ⟨i, HQ.out, true, p, rfl, Or.inr ⟨rfl, HN.out⟩, ?_⟩
        exact ((HB.out.setCell (by simp) _).setCell (by simp) _).drew
    · have HN : Hid (atP ss a = none) := Lib.hid (by unfold atP; rw [if_neg (by have := HLN.out; omega)])
      have z0 := (T2.out.set (q := (⟨#[]⟩, 0))).c0
      have z1 := (T2.out.set (q := (⟨#[]⟩, 0))).c1
      go_wp2
      refine bodyPost_ret (v := .tuple #[.agg #[.string ⟨#[]⟩, .int .u64 0], .bool false]) (by simp [results, Try.results37, go_sem, z0, z1]) rfl ⟨a, HQ.out, false, (⟨#[]⟩, 0), rfl, Or.inl ⟨rfl, rfl, HN.out⟩, ?_⟩
      exact (HB.out.setCell (by simp) _).setCell (by simp) _

set_option maxHeartbeats 4000000 in
set_option maxRecDepth 100000 in
theorem pickMax_any (B g : Nat) (kv vv : Value) (ss : List (ByteArray × Int)) (Q : Int → Prop) (w : World) (hm : MapAt w B g kv vv ss)
    (hc : Calls Try.prog 40 #[kv] (w.alloc (.cells #[.string ⟨#[]⟩, .int .u64 0] 40)) fun e w' => PlaceGives (w.alloc (.cells #[.string ⟨#[]⟩, .int .u64 0] 40)) w' e Q) :
    Calls Try.prog 37 #[.pointer (some ⟨g, 0, none⟩), (.func (.func 40) #[] #[])] w fun e w' => PickGives w w' e ss Q := by
  have HC := Lib.hid hc
  have hb0 := (one_alloc w (.cells #[.string ⟨#[]⟩, .int .u64 0] 40)).2
  have M1 := hm.keepB hb0
  have HM := Lib.hid M1
  have HB0 := Lib.hid hb0
  have c0 := M1.c0
  obtain ⟨ao, hkv⟩ := M1.ks.open
  rw [kcells_len] at hkv
  subst hkv
  obtain ⟨bo, hvv⟩ := M1.vs.open
  rw [vcells_len] at hvv
  subst hvv
  clear hm hc hb0 M1
  obtain ⟨n, hL⟩ : ∃ n, n = ss.length := ⟨_, rfl⟩
  rw [← hL] at HM HC c0
  have HLN := Lib.hid hL
  clear hL
  go_enter Try.func37, Try.ntmps37
  go_wp2_with fail
  refine HC.out.mono ?_
  rintro e w2 ⟨a, rfl, ⟨ha1, ha2⟩, hQ, hb⟩
  have HQ := Lib.hid hQ
  have HM2 := Lib.hid (HM.out.keepB hb)
  have T2 := Lib.hid ((Two.alloc w).keep hb)
  have HB := Lib.hid (HB0.out.trans (hb.mono HB0.out.size))
  clear hb hQ c0
  have c0 := HM2.out.c0
  have t0 := T2.out.c0
  have t1 := T2.out.c1
  have f0 := T2.out.f (i := 0)
  have f1 := T2.out.f (i := 1)
  by_cases h0 : a < 0
  · have HN : Hid (atP ss a = none) := Lib.hid (by unfold atP; rw [if_neg (by omega)])
    have z0 := (T2.out.set (q := (⟨#[]⟩, 0))).c0
    have z1 := (T2.out.set (q := (⟨#[]⟩, 0))).c1
    go_wp2
    refine bodyPost_ret (v := .tuple #[.agg #[.string ⟨#[]⟩, .int .u64 0], .bool false]) (by simp [results, Try.results37, go_sem, z0, z1]) rfl ⟨a, HQ.out, false, (⟨#[]⟩, 0), rfl, Or.inl ⟨rfl, rfl, HN.out⟩, ?_⟩
    exact (HB.out.setCell (by simp) _).setCell (by simp) _
  · by_cases h1 : a < n
    · obtain ⟨i, rfl⟩ : ∃ i : Nat, a = i := ⟨a.toNat, by omega⟩
      have hi : i < ss.length := by rw [← HLN.out]; omega
      obtain ⟨kb, hkb, hkh, hkc⟩ := HM2.out.ks.str i hi
      obtain ⟨vb, hvb, hvh, hvc⟩ := HM2.out.vs.u64 i hi
      have h3 : ao = some ⟨kb, 0, none⟩ := by injection hkb
      have h4 : bo = some ⟨vb, 0, none⟩ := by injection hvb
      subst h3 h4
      have d1 := HM2.out.c1
      have HN : Hid (atP ss i = some (ntp ss i)) := Lib.hid (by unfold atP; rw [if_pos (by omega)]; rfl)
      clear hkb hkh hvb hvh hi
      generalize ntp ss i = p at *
      have HT3 := Lib.hid (T2.out.set (q := p))
      go_wp2
      go_region
      all_goals
        go_wp2
        have z0 : ((w2.setCell ⟨w.heap.size, 0, none⟩ (.string p.1)).setCell ⟨w.heap.size, 1, none⟩ (.int .u64 p.2)).drew.cell? ⟨w.heap.size, 0, none⟩ = some (.string p.1) := HT3.out.c0
        have z1 : ((w2.setCell ⟨w.heap.size, 0, none⟩ (.string p.1)).setCell ⟨w.heap.size, 1, none⟩ (.int .u64 p.2)).drew.cell? ⟨w.heap.size, 1, none⟩ = some (.int .u64 p.2) := HT3.out.c1
        refine bodyPost_ret (v := .tuple #[.agg #[.string p.1, .int .u64 p.2], .bool true]) (by simp [results, Try.results37, go_sem, z0, z1]) rfl ⟨i, HQ.out, true, p, rfl, Or.inr ⟨rfl, HN.out⟩, ?_⟩
        exact ((HB.out.setCell (by simp) _).setCell (by simp) _).drew
    · have HN : Hid (atP ss a = none) := Lib.hid (by unfold atP; rw [if_neg (by have := HLN.out; omega)])
      have z0 := (T2.out.set (q := (⟨#[]⟩, 0))).c0
      have z1 := (T2.out.set (q := (⟨#[]⟩, 0))).c1
      go_wp2
      refine bodyPost_ret (v := .tuple #[.agg #[.string ⟨#[]⟩, .int .u64 0], .bool false]) (by simp [results, Try.results37, go_sem, z0, z1]) rfl ⟨a, HQ.out, false, (⟨#[]⟩, 0), rfl, Or.inl ⟨rfl, rfl, HN.out⟩, ?_⟩
      exact (HB.out.setCell (by simp) _).setCell (by simp) _

set_option maxHeartbeats 4000000 in
set_option maxRecDepth 100000 in
theorem pickMin_any (B g : Nat) (kv vv : Value) (ss : List (ByteArray × Int)) (Q : Int → Prop) (w : World) (hm : MapAt w B g kv vv ss)
    (hc : Calls Try.prog 47 #[kv] (w.alloc (.cells #[.string ⟨#[]⟩, .int .u64 0] 40)) fun e w' => PlaceGives (w.alloc (.cells #[.string ⟨#[]⟩, .int .u64 0] 40)) w' e Q) :
    Calls Try.prog 37 #[.pointer (some ⟨g, 0, none⟩), (.func (.func 47) #[] #[])] w fun e w' => PickGives w w' e ss Q := by
  have HC := Lib.hid hc
  have hb0 := (one_alloc w (.cells #[.string ⟨#[]⟩, .int .u64 0] 40)).2
  have M1 := hm.keepB hb0
  have HM := Lib.hid M1
  have HB0 := Lib.hid hb0
  have c0 := M1.c0
  obtain ⟨ao, hkv⟩ := M1.ks.open
  rw [kcells_len] at hkv
  subst hkv
  obtain ⟨bo, hvv⟩ := M1.vs.open
  rw [vcells_len] at hvv
  subst hvv
  clear hm hc hb0 M1
  obtain ⟨n, hL⟩ : ∃ n, n = ss.length := ⟨_, rfl⟩
  rw [← hL] at HM HC c0
  have HLN := Lib.hid hL
  clear hL
  go_enter Try.func37, Try.ntmps37
  go_wp2_with fail
  refine HC.out.mono ?_
  rintro e w2 ⟨a, rfl, ⟨ha1, ha2⟩, hQ, hb⟩
  have HQ := Lib.hid hQ
  have HM2 := Lib.hid (HM.out.keepB hb)
  have T2 := Lib.hid ((Two.alloc w).keep hb)
  have HB := Lib.hid (HB0.out.trans (hb.mono HB0.out.size))
  clear hb hQ c0
  have c0 := HM2.out.c0
  have t0 := T2.out.c0
  have t1 := T2.out.c1
  have f0 := T2.out.f (i := 0)
  have f1 := T2.out.f (i := 1)
  by_cases h0 : a < 0
  · have HN : Hid (atP ss a = none) := Lib.hid (by unfold atP; rw [if_neg (by omega)])
    have z0 := (T2.out.set (q := (⟨#[]⟩, 0))).c0
    have z1 := (T2.out.set (q := (⟨#[]⟩, 0))).c1
    go_wp2
    refine bodyPost_ret (v := .tuple #[.agg #[.string ⟨#[]⟩, .int .u64 0], .bool false]) (by simp [results, Try.results37, go_sem, z0, z1]) rfl ⟨a, HQ.out, false, (⟨#[]⟩, 0), rfl, Or.inl ⟨rfl, rfl, HN.out⟩, ?_⟩
    exact (HB.out.setCell (by simp) _).setCell (by simp) _
  · by_cases h1 : a < n
    · obtain ⟨i, rfl⟩ : ∃ i : Nat, a = i := ⟨a.toNat, by omega⟩
      have hi : i < ss.length := by rw [← HLN.out]; omega
      obtain ⟨kb, hkb, hkh, hkc⟩ := HM2.out.ks.str i hi
      obtain ⟨vb, hvb, hvh, hvc⟩ := HM2.out.vs.u64 i hi
      have h3 : ao = some ⟨kb, 0, none⟩ := by injection hkb
      have h4 : bo = some ⟨vb, 0, none⟩ := by injection hvb
      subst h3 h4
      have d1 := HM2.out.c1
      have HN : Hid (atP ss i = some (ntp ss i)) := Lib.hid (by unfold atP; rw [if_pos (by omega)]; rfl)
      clear hkb hkh hvb hvh hi
      generalize ntp ss i = p at *
      have HT3 := Lib.hid (T2.out.set (q := p))
      go_wp2
      go_region
      all_goals
        go_wp2
        have z0 : ((w2.setCell ⟨w.heap.size, 0, none⟩ (.string p.1)).setCell ⟨w.heap.size, 1, none⟩ (.int .u64 p.2)).drew.cell? ⟨w.heap.size, 0, none⟩ = some (.string p.1) := HT3.out.c0
        have z1 : ((w2.setCell ⟨w.heap.size, 0, none⟩ (.string p.1)).setCell ⟨w.heap.size, 1, none⟩ (.int .u64 p.2)).drew.cell? ⟨w.heap.size, 1, none⟩ = some (.int .u64 p.2) := HT3.out.c1
        refine bodyPost_ret (v := .tuple #[.agg #[.string p.1, .int .u64 p.2], .bool true]) (by simp [results, Try.results37, go_sem, z0, z1]) rfl ⟨i, HQ.out, true, p, rfl, Or.inr ⟨rfl, HN.out⟩, ?_⟩
        exact ((HB.out.setCell (by simp) _).setCell (by simp) _).drew
    · have HN : Hid (atP ss a = none) := Lib.hid (by unfold atP; rw [if_neg (by have := HLN.out; omega)])
      have z0 := (T2.out.set (q := (⟨#[]⟩, 0))).c0
      have z1 := (T2.out.set (q := (⟨#[]⟩, 0))).c1
      go_wp2
      refine bodyPost_ret (v := .tuple #[.agg #[.string ⟨#[]⟩, .int .u64 0], .bool false]) (by simp [results, Try.results37, go_sem, z0, z1]) rfl ⟨a, HQ.out, false, (⟨#[]⟩, 0), rfl, Or.inl ⟨rfl, rfl, HN.out⟩, ?_⟩
      exact (HB.out.setCell (by simp) _).setCell (by simp) _
end Go.Proofs.Ytpdcmgillinooaa
