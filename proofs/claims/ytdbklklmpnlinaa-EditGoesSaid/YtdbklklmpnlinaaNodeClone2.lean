/- node.Clone: a node that has the same, in new memory. Condition: rows of at most 2^38 elements. -/
import Derived.Test.YtdbklklmpnlinaaNodeCloneAt
import Derived.Deep.DeepCutAuto
namespace Go.Proofs.Ytdbklklmpnlinaa
open Go.RowKit

set_option maxHeartbeats 8000000 in
set_option maxRecDepth 100000 in
theorem nclone_any (lv nx : Int) (lo hi : ByteArray) (la : Bool) (ak av ac : Option Addr) (nk ck nv cv nc cc : Nat) (ks : List ByteArray) (vs : List Nat) (cs : List Int) (w : World) (hN : NdAt w ak av ac nk ck nv cv nc cc ks vs cs) (hn : nk ≤ 274877906944 ∧ nv ≤ 274877906944 ∧ nc ≤ 274877906944) :
    Calls Try.prog 43 #[.agg #[.int .i64 lv, .string lo, .string hi, .bool la, .int .i64 nx, .slice ak nk ck, .slice av nv cv, .slice ac nc cc]] w fun e w' => CloneGives w w' e lv nx lo hi la ks vs cs := by
  obtain ⟨n1, n2, hB⟩ := boxes2 w #[.int .i64 lv, .string lo, .string hi, .bool la, .int .i64 nx, .slice ak nk ck, .slice av nv cv, .slice ac nc cc] #[.int .i64 0, .string ⟨#[]⟩, .string ⟨#[]⟩, .bool false, .int .i64 0, .slice none 0 0, .slice none 0 0, .slice none 0 0]
  obtain ⟨w1, hw1⟩ : ∃ w1, w1 = (w.alloc (.cells #[.int .i64 lv, .string lo, .string hi, .bool la, .int .i64 nx, .slice ak nk ck, .slice av nv cv, .slice ac nc cc] 41)).alloc (.cells #[.int .i64 0, .string ⟨#[]⟩, .string ⟨#[]⟩, .bool false, .int .i64 0, .slice none 0 0, .slice none 0 0, .slice none 0 0] 41) := ⟨_, rfl⟩
  have HB : Hid (Below w.heap.size w w1) := Lib.hid (by rw [hw1]; exact hB)
  have HN1 : Hid (NB w1 w.heap.size #[.int .i64 lv, .string lo, .string hi, .bool la, .int .i64 nx, .slice ak nk ck, .slice av nv cv, .slice ac nc cc]) := Lib.hid (by rw [hw1]; exact n1)
  have HN2 : Hid (NB w1 (w.heap.size + 1) #[.int .i64 0, .string ⟨#[]⟩, .string ⟨#[]⟩, .bool false, .int .i64 0, .slice none 0 0, .slice none 0 0, .slice none 0 0]) := Lib.hid (by rw [hw1]; exact n2)
  have HSZ : Hid (w1.heap.size = w.heap.size + 1 + 1) := Lib.hid (by rw [hw1, World.size_alloc, World.size_alloc])
  have HW1 := Lib.hid hw1
  have HKS := Lib.hid (fun W (hb : Below w1.heap.size w1 W) => copyStr_any ak nk ck (ks.map Value.string) W ((hN.k.keep HB.out).keep hb) (ones_str ks) hn.1)
  have HVS := Lib.hid (fun W (hb : Below w1.heap.size w1 W) => copyU64_any av nv cv (vs.map uv) W ((hN.v.keep HB.out).keep hb) (ones_u64 vs) hn.2.1)
  have HCS := Lib.hid (fun W (hb : Below w1.heap.size w1 W) => copyInt_any ac nc cc (cs.map (Value.int .i64)) W ((hN.c.keep HB.out).keep hb) (ones_int cs) hn.2.2)
  obtain ⟨q0, q1, q2, q3, q4, q5, q6, q7⟩ := HN1.out.cells
  clear n1 n2 hB hw1 hN hn
  go_enter Try.func43, Try.ntmps43
  go_wp2
  rw [← HW1.out]
  go_upto_region 1 with fail
  go_cut [] (fun wx => Hid (CloneAt w w1 wx lv nx lo hi la ks vs cs))
  case first =>
   go_region_with (first
    | (go_at_call 78; refine (HKS.out _ (Below.refl w1.heap.size w1).drew).mono ?_; rintro e wa ⟨kv, rfl, hk1, hb1⟩; obtain ⟨ko, rfl⟩ := hk1.open; have hA1 := (Below.refl w1.heap.size w1).drew.trans (hb1.mono (Nat.le_refl _)); have r5 := (HN1.out.below hA1).cells.2.2.2.2.2.1; have r6 := (HN1.out.below hA1).cells.2.2.2.2.2.2.1; have r7 := (HN1.out.below hA1).cells.2.2.2.2.2.2.2)
    | (go_at_call 79; refine (HVS.out _ hA1).mono ?_; rintro e wb ⟨vv, rfl, hk2, hb2⟩; obtain ⟨vo, rfl⟩ := hk2.open; have hA2 := hA1.trans (hb2.mono hA1.size); have s5 := (HN1.out.below hA2).cells.2.2.2.2.2.1; have s6 := (HN1.out.below hA2).cells.2.2.2.2.2.2.1; have s7 := (HN1.out.below hA2).cells.2.2.2.2.2.2.2)
    | (go_at_call 80; refine (HCS.out _ hA2).mono ?_; rintro e wc ⟨cv2, rfl, hk3, hb3⟩; obtain ⟨co, rfl⟩ := hk3.open; have hA3 := hA2.trans (hb3.mono hA2.size); have t5 := (HN1.out.below hA3).cells.2.2.2.2.2.1; have t6 := (HN1.out.below hA3).cells.2.2.2.2.2.2.1; have t7 := (HN1.out.below hA3).cells.2.2.2.2.2.2.2; have f5 := NB.frozen (HN1.out.below hA3) 5; have f6 := NB.frozen (HN1.out.below hA3) 6; have f7 := NB.frozen (HN1.out.below hA3) 7))
   all_goals (go_wp2_with fail; go_meet; exact Lib.hid (cloneAt_of lv nx lo hi la ak av ac nk ck nv cv nc cc HN1.out HN2.out HSZ.out HB.out hA1 hb2 hb3 hk1 hk2 hk3))
  case rest =>
    obtain ⟨ko, vo, co, hm1, hm2, hk1, hk2, hk3, hb⟩ := hcut.out
    clear HKS HVS HCS HN1 HN2 HB HW1 q0 q1 q2 q3 q4 q5 q6 q7
    have hne : w.heap.size + 1 ≠ w.heap.size := by omega
    obtain ⟨t0, t1, t2, t3, t4, t5, t6, t7⟩ := hm1.cells
    have f0 := hm2.frozen 0
    have f1 := hm2.frozen 1
    have f2 := hm2.frozen 2
    have f3 := hm2.frozen 3
    have f4 := hm2.frozen 4
    have f5 := hm2.frozen 5
    have f6 := hm2.frozen 6
    have f7 := hm2.frozen 7
    obtain ⟨u0, u1, u2, u3, u4, u5, u6, u7⟩ := hm2.cells
    go_wp2
    refine bodyPost_ret (v := .agg #[.int .i64 lv, .string lo, .string hi, .bool la, .int .i64 nx, .slice ko ks.length ks.length, .slice vo vs.length vs.length, .slice co cs.length cs.length]) (by simp [results, Try.results43, go_sem, *]) rfl ?_
    have hz := HSZ.out
    refine ⟨_, _, _, rfl, (hk1.far ?_).back (by omega), (hk2.far ?_).back (by omega), (hk3.far ?_).back (by omega), ?_⟩
    · exact fun g hg => wr5_far (w.heap.size + 1) g (by omega) [(0, _), (1, _), (2, _), (3, _), (4, _), (5, _), (6, _), (7, _)] wc
    · exact fun g hg => wr5_far (w.heap.size + 1) g (by omega) [(0, _), (1, _), (2, _), (3, _), (4, _), (5, _), (6, _), (7, _)] wc
    · exact fun g hg => wr5_far (w.heap.size + 1) g (by omega) [(0, _), (1, _), (2, _), (3, _), (4, _), (5, _), (6, _), (7, _)] wc
    · exact wr5_below (w.heap.size + 1) w.heap.size (by omega) [(0, _), (1, _), (2, _), (3, _), (4, _), (5, _), (6, _), (7, _)] w wc hb
end Go.Proofs.Ytdbklklmpnlinaa
