/- (*pairs.Map).Next, Prev, Min, Max and Len. Conditions: at most 2^37 pairs, keys of at most 2^47 bytes. -/
import Derived.Test.YtpdcmgillinooaaMapPick
namespace Go.Proofs.Ytpdcmgillinooaa
open Go.RowKit

theorem MapAt.len {w : World} {B g : Nat} {kv vv : Value} {ss : List (ByteArray × Int)} (h : MapAt w B g kv vv ss) : ∃ ao, kv = .slice ao ss.length ss.length := by
  have := h.ks.open
  rwa [kcells_len] at this

/-- Next's closure. -/
def NextQ (ss : List (ByteArray × Int)) (k : ByteArray) (a : Int) : Prop := ∃ j : Nat, a = j ∧ Edge ss.length j (pFloor (keysOf ss) k)
def PrevQ (ss : List (ByteArray × Int)) (k : ByteArray) (a : Int) : Prop := ∃ j : Nat, a = (j : Int) - 1 ∧ Edge ss.length j (pFind (keysOf ss) k)

set_option maxHeartbeats 1000000 in
theorem nextClos_any (B g cb : Nat) (kv vv : Value) (k : ByteArray) (ss : List (ByteArray × Int)) (w : World) (hm : MapAt w B g kv vv ss) (hf : Fine ss) (hk : k.size ≤ 140737488355328) (hc : w.cell? ⟨cb, 0, none⟩ = some (.string k)) :
    Calls Try.prog 38 #[kv, .pointer (some ⟨cb, 0, none⟩)] w fun e w' => PlaceGives w w' e (NextQ ss k) := by
  have hF := floor_any kv k (keysOf ss) w (hm.ks.rd (by have := hf.len; rw [kcells_len]; omega)) hk (by
    intro x hx
    obtain ⟨p, hp, rfl⟩ := List.mem_map.1 hx
    exact hf.size p hp) (by have := hf.len; rw [keysOf_len]; omega) hf.rises
  have HF := Lib.hid hF
  have HL := Lib.hid hf.len
  obtain ⟨ao, hkv⟩ := hm.len
  subst hkv
  clear hm hf hF hk
  generalize hn : ss.length = n at *
  have HN := Lib.hid hn
  clear hn
  go_enter Try.func38, Try.ntmps38
  go_wp2_with fail
  refine HF.out.mono ?_
  rintro e w2 ⟨at_, rfl, hE, hb⟩
  have hle := hE.1
  rw [keysOf_len, HN.out] at hle
  have HE := Lib.hid hE
  have HB := Lib.hid hb
  have hl := HL.out
  clear hE hb
  go_wp2
  go_ret
  refine ⟨at_, rfl, ⟨by omega, by omega⟩, ⟨at_, rfl, ?_⟩, HB.out⟩
  have := HE.out
  rwa [keysOf_len] at this

set_option maxHeartbeats 1000000 in
theorem prevClos_any (B g cb : Nat) (kv vv : Value) (k : ByteArray) (ss : List (ByteArray × Int)) (w : World) (hm : MapAt w B g kv vv ss) (hf : Fine ss) (hk : k.size ≤ 140737488355328) (hc : w.cell? ⟨cb, 0, none⟩ = some (.string k)) :
    Calls Try.prog 42 #[kv, .pointer (some ⟨cb, 0, none⟩)] w fun e w' => PlaceGives w w' e (PrevQ ss k) := by
  have hF := below_any kv k (keysOf ss) w (hm.ks.rd (by have := hf.len; rw [kcells_len]; omega)) hk (by
    intro x hx
    obtain ⟨p, hp, rfl⟩ := List.mem_map.1 hx
    exact hf.size p hp) (by have := hf.len; rw [keysOf_len]; omega) hf.rises
  have HF := Lib.hid hF
  have HL := Lib.hid hf.len
  obtain ⟨ao, hkv⟩ := hm.len
  subst hkv
  clear hm hf hF hk
  generalize hn : ss.length = n at *
  have HN := Lib.hid hn
  clear hn
  go_enter Try.func42, Try.ntmps42
  go_wp2_with fail
  refine HF.out.mono ?_
  rintro e w2 ⟨at_, rfl, hE, hb⟩
  have hle := hE.1
  rw [keysOf_len, HN.out] at hle
  have HE := Lib.hid hE
  have HB := Lib.hid hb
  have hl := HL.out
  clear hE hb
  go_wp2
  go_ret
  refine ⟨(at_ : Int) - 1, rfl, ⟨by omega, by omega⟩, ⟨at_, rfl, ?_⟩, HB.out⟩
  have := HE.out
  rwa [keysOf_len] at this

set_option maxHeartbeats 1000000 in
theorem maxClos_any (B g : Nat) (kv vv : Value) (ss : List (ByteArray × Int)) (w : World) (hm : MapAt w B g kv vv ss) (hl : ss.length ≤ 137438953472) :
    Calls Try.prog 40 #[kv] w fun e w' => PlaceGives w w' e (fun a => a = (ss.length : Int) - 1) := by
  obtain ⟨ao, hkv⟩ := hm.len
  subst hkv
  clear hm
  generalize ss.length = n at *
  go_enter Try.func40, Try.ntmps40
  go_wp2
  go_ret
  exact ⟨(n : Int) - 1, rfl, ⟨by omega, by omega⟩, rfl, Below.refl _ _⟩

set_option maxHeartbeats 1000000 in
theorem minClos_any (v : Value) (w : World) :
    Calls Try.prog 47 #[v] w fun e w' => PlaceGives w w' e (fun a => a = 0) := by
  go_enter Try.func47, Try.ntmps47
  go_wp2
  go_ret
  exact ⟨0, rfl, ⟨by omega, by omega⟩, rfl, Below.refl _ _⟩

theorem atP_none {ss : List (ByteArray × Int)} {a : Int} (h : a < 0 ∨ (ss.length : Int) ≤ a) : atP ss a = none := by unfold atP; rw [if_neg (by omega)]
theorem atP_some {ss : List (ByteArray × Int)} {j : Nat} : atP ss j = ss[j]? := by
  unfold atP
  by_cases h : j < ss.length
  · rw [if_pos (by omega), List.getElem?_eq_getElem h]
    show some (ntp ss j) = _
    rw [ntp_eq h]
  · rw [if_neg (by omega), List.getElem?_eq_none (by omega)]

theorem NextQ.sel {ps ss : List (ByteArray × Int)} {k : ByteArray} {a : Int} (h : NextQ ss k a) (hp : Kept ps ss) : atP ss a = selP (nextC k) nextB ps := by
  obtain ⟨j, rfl, hE⟩ := h
  rw [atP_some]
  refine (next_rise hp.same hp.rise k j (fun i hi hij => ?_) (fun i hi hij => ?_)).symm
  · have := hE.2.1 i hij
    unfold pFloor at this
    rwa [keysOf_at hi] at this
  · have := hE.2.2 i hij hi
    unfold pFloor at this
    rwa [keysOf_at hi] at this

theorem PrevQ.sel {ps ss : List (ByteArray × Int)} {k : ByteArray} {a : Int} (h : PrevQ ss k a) (hp : Kept ps ss) : atP ss a = selP (prevC k) prevB ps := by
  obtain ⟨j, rfl, hE⟩ := h
  rw [prev_rise hp.same hp.rise k j hE.1 (fun i hi hij => ?_) (fun i hi hij => ?_)]
  · by_cases h0 : j = 0
    · rw [if_pos h0, atP_none (by omega)]
    · rw [if_neg h0, show (j : Int) - 1 = ((j - 1 : Nat) : Int) by omega, atP_some]
  · have := hE.2.1 i hij
    unfold pFind at this
    rw [keysOf_at hi] at this
    simpa using this
  · have := hE.2.2 i hij hi
    unfold pFind at this
    rw [keysOf_at hi] at this
    simpa using this

/-- The worlds of Next and Prev ahead of pick. -/
theorem ahead_two (w : World) (k : ByteArray) (t1 : TypeId) (o2 : Obj) : Below w.heap.size w ((w.alloc (.cells #[.string k] t1)).alloc o2) ∧ ((w.alloc (.cells #[.string k] t1)).alloc o2).cell? ⟨w.heap.size, 0, none⟩ = some (.string k) := by
  have hs : (w.alloc (.cells #[.string k] t1)).heap.size = w.heap.size + 1 := by simp
  refine ⟨((Below.refl _ _).alloc (Nat.le_refl _) _).alloc (by simp) _, ?_⟩
  have : ((w.alloc (.cells #[.string k] t1)).alloc o2).heap[w.heap.size]? = some (.cells #[.string k] t1 (0, 0)) := by
    rw [Below.heap_alloc _ _ _ (by omega)]
    exact heap_alloc_new _ _
  rw [cell_of_heap this]
  rfl

theorem MapAt.ahead {w w' : World} {B g : Nat} {kv vv : Value} {ss : List (ByteArray × Int)} (h : MapAt w B g kv vv ss) (hb : Below w.heap.size w w') (o : Obj) : MapAt (w'.alloc o) B g kv vv ss := (h.keepB hb).keepB (one_alloc w' o).2

set_option maxHeartbeats 2000000 in
set_option maxRecDepth 100000 in
theorem mnext_any (B g : Nat) (kv vv : Value) (k : ByteArray) (ps ss : List (ByteArray × Int)) (w : World) (hm : MapAt w B g kv vv ss) (hf : Fine ss) (hk : k.size ≤ 140737488355328) (hp : Kept ps ss) :
    Calls Try.prog 20 #[.pointer (some ⟨g, 0, none⟩), .string k] w fun e w' => SelGives w w' e (selP (nextC k) nextB ps) := by
  have h2 := ahead_two w k 9 (.cells #[.string ⟨#[]⟩, .int .u64 0] 40)
  have m2 := hm.keepB h2.1
  have T2 : Two ((w.alloc (.cells #[.string k] 9)).alloc (.cells #[.string ⟨#[]⟩, .int .u64 0] 40)) (w.heap.size + 1) (⟨#[]⟩, 0) := by
    have := heap_alloc_new (w.alloc (.cells #[.string k] 9)) (.cells #[.string ⟨#[]⟩, .int .u64 0] 40)
    rwa [show (w.alloc (.cells #[.string k] 9)).heap.size = w.heap.size + 1 by simp] at this
  have HP := Lib.hid (pickNext_any B g w.heap.size kv vv ss (NextQ ss k) _ m2 (nextClos_any B g w.heap.size kv vv k ss _ (m2.keepB (one_alloc _ _).2) hf hk (by
    rw [(one_alloc ((w.alloc (.cells #[.string k] 9)).alloc (.cells #[.string ⟨#[]⟩, .int .u64 0] 40)) (.cells #[.string ⟨#[]⟩, .int .u64 0] 40)).2.cell (by simp; omega)]
    exact h2.2)))
  have HQ := Lib.hid (fun a (h : NextQ ss k a) => h.sel hp)
  have HB2 := Lib.hid h2.1
  have HT := Lib.hid T2
  clear hm hf hk hp h2 m2 T2
  go_enter Try.func20, Try.ntmps20
  go_wp2_with fail
  refine HP.out.mono ?_
  rintro e w3 ⟨a, hq, b, p, rfl, hs, hb⟩
  rw [HQ.out a hq] at hs
  have HS := Lib.hid hs
  have T3 := Lib.hid (HT.out.keep hb)
  have HB := Lib.hid (HB2.out.trans (hb.mono HB2.out.size))
  clear hq hs hb
  have t0 := T3.out.c0
  have t1 := T3.out.c1
  have f0 := T3.out.f (i := 0)
  have f1 := T3.out.f (i := 1)
  have z0 := (T3.out.set (q := p)).c0
  have z1 := (T3.out.set (q := p)).c1
  go_wp2
  refine bodyPost_ret (v := .tuple #[.agg #[.string p.1, .int .u64 p.2], .bool b]) (by simp [results, Try.results20, go_sem, z0, z1]) rfl ⟨b, p, rfl, HS.out, ?_⟩
  exact (HB.out.setCell (by simp) _).setCell (by simp) _

set_option maxHeartbeats 2000000 in
set_option maxRecDepth 100000 in
theorem mprev_any (B g : Nat) (kv vv : Value) (k : ByteArray) (ps ss : List (ByteArray × Int)) (w : World) (hm : MapAt w B g kv vv ss) (hf : Fine ss) (hk : k.size ≤ 140737488355328) (hp : Kept ps ss) :
    Calls Try.prog 24 #[.pointer (some ⟨g, 0, none⟩), .string k] w fun e w' => SelGives w w' e (selP (prevC k) prevB ps) := by
  have h2 := ahead_two w k 9 (.cells #[.string ⟨#[]⟩, .int .u64 0] 40)
  have m2 := hm.keepB h2.1
  have T2 : Two ((w.alloc (.cells #[.string k] 9)).alloc (.cells #[.string ⟨#[]⟩, .int .u64 0] 40)) (w.heap.size + 1) (⟨#[]⟩, 0) := by
    have := heap_alloc_new (w.alloc (.cells #[.string k] 9)) (.cells #[.string ⟨#[]⟩, .int .u64 0] 40)
    rwa [show (w.alloc (.cells #[.string k] 9)).heap.size = w.heap.size + 1 by simp] at this
  have HP := Lib.hid (pickPrev_any B g w.heap.size kv vv ss (PrevQ ss k) _ m2 (prevClos_any B g w.heap.size kv vv k ss _ (m2.keepB (one_alloc _ _).2) hf hk (by
    rw [(one_alloc ((w.alloc (.cells #[.string k] 9)).alloc (.cells #[.string ⟨#[]⟩, .int .u64 0] 40)) (.cells #[.string ⟨#[]⟩, .int .u64 0] 40)).2.cell (by simp; omega)]
    exact h2.2)))
  have HQ := Lib.hid (fun a (h : PrevQ ss k a) => h.sel hp)
  have HB2 := Lib.hid h2.1
  have HT := Lib.hid T2
  clear hm hf hk hp h2 m2 T2
  go_enter Try.func24, Try.ntmps24
  go_wp2_with fail
  refine HP.out.mono ?_
  rintro e w3 ⟨a, hq, b, p, rfl, hs, hb⟩
  rw [HQ.out a hq] at hs
  have HS := Lib.hid hs
  have T3 := Lib.hid (HT.out.keep hb)
  have HB := Lib.hid (HB2.out.trans (hb.mono HB2.out.size))
  clear hq hs hb
  have t0 := T3.out.c0
  have t1 := T3.out.c1
  have f0 := T3.out.f (i := 0)
  have f1 := T3.out.f (i := 1)
  have z0 := (T3.out.set (q := p)).c0
  have z1 := (T3.out.set (q := p)).c1
  go_wp2
  refine bodyPost_ret (v := .tuple #[.agg #[.string p.1, .int .u64 p.2], .bool b]) (by simp [results, Try.results24, go_sem, z0, z1]) rfl ⟨b, p, rfl, HS.out, ?_⟩
  exact (HB.out.setCell (by simp) _).setCell (by simp) _

set_option maxHeartbeats 2000000 in
set_option maxRecDepth 100000 in
theorem mmax_any (B g : Nat) (kv vv : Value) (ps ss : List (ByteArray × Int)) (w : World) (hm : MapAt w B g kv vv ss) (hf : Fine ss) (hp : Kept ps ss) :
    Calls Try.prog 21 #[.pointer (some ⟨g, 0, none⟩)] w fun e w' => SelGives w w' e (selP (prevTC ⟨#[]⟩) prevTB ps) := by
  have h2 : Below w.heap.size w (w.alloc (.cells #[.string ⟨#[]⟩, .int .u64 0] 40)) := (one_alloc w _).2
  have m2 := hm.keepB h2
  have T2 := Two.alloc w
  have HP := Lib.hid (pickMax_any B g kv vv ss (fun a => a = (ss.length : Int) - 1) _ m2 (maxClos_any B g kv vv ss _ (m2.keepB (one_alloc _ _).2) hf.len))
  have HQ : Hid (∀ a : Int, a = (ss.length : Int) - 1 → atP ss a = selP (prevTC ⟨#[]⟩) prevTB ps) := Lib.hid (fun a h => by
    subst h
    rw [max_rise hp.same hp.rise]
    by_cases h0 : ss.length = 0
    · rw [if_pos h0, atP_none (by omega)]
    · rw [if_neg h0, show (ss.length : Int) - 1 = ((ss.length - 1 : Nat) : Int) by omega, atP_some])
  have HB2 := Lib.hid h2
  have HT := Lib.hid T2
  clear hm hf hp h2 m2 T2
  go_enter Try.func21, Try.ntmps21
  go_wp2_with fail
  refine HP.out.mono ?_
  rintro e w3 ⟨a, hq, b, p, rfl, hs, hb⟩
  rw [HQ.out a hq] at hs
  have HS := Lib.hid hs
  have T3 := Lib.hid (HT.out.keep hb)
  have HB := Lib.hid (HB2.out.trans (hb.mono HB2.out.size))
  clear hq hs hb
  have t0 := T3.out.c0
  have t1 := T3.out.c1
  have f0 := T3.out.f (i := 0)
  have f1 := T3.out.f (i := 1)
  have z0 := (T3.out.set (q := p)).c0
  have z1 := (T3.out.set (q := p)).c1
  go_wp2
  refine bodyPost_ret (v := .tuple #[.agg #[.string p.1, .int .u64 p.2], .bool b]) (by simp [results, Try.results21, go_sem, z0, z1]) rfl ⟨b, p, rfl, HS.out, ?_⟩
  exact (HB.out.setCell (by simp) _).setCell (by simp) _

set_option maxHeartbeats 2000000 in
set_option maxRecDepth 100000 in
theorem mmin_any (B g : Nat) (kv vv : Value) (ss : List (ByteArray × Int)) (w : World) (hm : MapAt w B g kv vv ss) :
    Calls Try.prog 32 #[.pointer (some ⟨g, 0, none⟩)] w fun e w' => SelGives w w' e (ss[0]?) := by
  have h2 : Below w.heap.size w (w.alloc (.cells #[.string ⟨#[]⟩, .int .u64 0] 40)) := (one_alloc w _).2
  have m2 := hm.keepB h2
  have T2 := Two.alloc w
  have HP := Lib.hid (pickMin_any B g kv vv ss (fun a => a = 0) _ m2 (minClos_any kv _))
  have HQ : Hid (∀ a : Int, a = 0 → atP ss a = ss[0]?) := Lib.hid (fun a h => by subst h; exact atP_some (j := 0))
  have HB2 := Lib.hid h2
  have HT := Lib.hid T2
  clear hm h2 m2 T2
  go_enter Try.func32, Try.ntmps32
  go_wp2_with fail
  refine HP.out.mono ?_
  rintro e w3 ⟨a, hq, b, p, rfl, hs, hb⟩
  rw [HQ.out a hq] at hs
  have HS := Lib.hid hs
  have T3 := Lib.hid (HT.out.keep hb)
  have HB := Lib.hid (HB2.out.trans (hb.mono HB2.out.size))
  clear hq hs hb
  have t0 := T3.out.c0
  have t1 := T3.out.c1
  have f0 := T3.out.f (i := 0)
  have f1 := T3.out.f (i := 1)
  have z0 := (T3.out.set (q := p)).c0
  have z1 := (T3.out.set (q := p)).c1
  go_wp2
  refine bodyPost_ret (v := .tuple #[.agg #[.string p.1, .int .u64 p.2], .bool b]) (by simp [results, Try.results32, go_sem, z0, z1]) rfl ⟨b, p, rfl, HS.out, ?_⟩
  exact (HB.out.setCell (by simp) _).setCell (by simp) _

set_option maxHeartbeats 1000000 in
theorem mlen_any (B g : Nat) (kv vv : Value) (ss : List (ByteArray × Int)) (w : World) (hm : MapAt w B g kv vv ss) :
    Calls Try.prog 22 #[.pointer (some ⟨g, 0, none⟩)] w fun e w' => e = .returned (.int .i64 ss.length) ∧ w = w' := by
  obtain ⟨ao, hkv⟩ := hm.len
  subst hkv
  have c0 := hm.c0
  clear hm
  generalize ss.length = n at *
  go_enter Try.func22, Try.ntmps22
  go_wp2
  go_ret
  exact ⟨rfl, rfl⟩

theorem mlen_nil (w : World) : Calls Try.prog 22 #[.pointer none] w fun e w' => e = .returned (.int .i64 0) ∧ w = w' := by
  go_enter Try.func22, Try.ntmps22
  go_wp2
  go_ret
  exact ⟨rfl, rfl⟩
end Go.Proofs.Ytpdcmgillinooaa
