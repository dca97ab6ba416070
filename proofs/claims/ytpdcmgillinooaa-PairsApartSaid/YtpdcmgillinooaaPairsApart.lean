/- The law PairsApart, walked up to its last test: a clone is apart. Conditions: the list's cells are there; the last act's High is at most 2^47 bytes long. -/
import Derived.Test.YtpdcmgillinooaaPlayBase
import Derived.Test.YtpdcmgillinooaaLastFacts
import Derived.Test.YtpdcmgillinooaaMapNil
import Derived.Deep.CutRange
namespace Go.Proofs.Ytpdcmgillinooaa
open Go.RowKit

/-- Two rows of values share no block. -/
def ApartV (v u : Value) : Prop := ∀ b, v.ownBlock = some b → u.ownBlock = some b → False
theorem ApartV.symm {v u : Value} (h : ApartV v u) : ApartV u v := fun b h1 h2 => h b h2 h1
theorem ApartV.next {w : World} {v u u' : Value} (h : ApartV v u) (hlt : ∀ b, v.ownBlock = some b → b < w.heap.size) (hn : NewOr w u u') : ApartV v u' := by
  intro b h1 h2
  rcases hn with rfl | hn
  · exact h b h1 h2
  · have := hn b h2
    have := hlt b h1
    omega

/-- A map stays where another one is written. -/
theorem MapAt.apart {w w' : World} {B C g g' : Nat} {kv vv kv' vv' : Value} {ss ss' : List (ByteArray × Int)} (h : MapAt w B g kv vv ss) (h' : MapAt w C g' kv' vv' ss') (hk : Keep (foot g' vv') w w') (hg : g ≠ g') (hv : ApartV vv vv') : MapAt w' B g kv vv ss := by
  refine h.keep hk ?_ ?_ ?_
  · rintro (e | e)
    · exact hg e
    · have := h'.vs.typ g e
      rw [h.blk] at this
      injection this with this
      injection this with _ ht
      exact absurd ht (by decide)
  · rintro k hkb (rfl | e)
    · have := h.ks.typ k hkb
      rw [h'.blk] at this
      injection this with this
      injection this with _ ht
      exact absurd ht (by decide)
    · have := h.ks.typ k hkb
      rw [h'.vs.typ k e] at this
      injection this with this
      injection this with _ ht
      exact absurd ht (by decide)
  · rintro k hkb (rfl | e)
    · have := h.vs.typ k hkb
      rw [h'.blk] at this
      injection this with this
      injection this with _ ht
      exact absurd ht (by decide)
    · exact hv k hkb e

theorem MapAt.vlt {w : World} {B g : Nat} {kv vv : Value} {ss : List (ByteArray × Int)} (h : MapAt w B g kv vv ss) : ∀ b, vv.ownBlock = some b → b < w.heap.size := fun b hb => (h.vs.low b hb).2

/-- The map that acts are put into. -/
structure PutAt (w0 wr : World) (ab g : Nat) (y : It) (ps : List (ByteArray × Int)) (i : Nat) : Prop where
  map : ∃ kv vv ss, MapAt wr w0.heap.size g kv vv ss ∧ Kept ps ss
  act : wr.heap[ab]? = some (.cells #[.int .i64 y.kind, .string y.key, .int .u64 y.val, .string y.high, .int .i64 y.limit] 31 (0, 0))
  len : ps.length ≤ i
  size : ∀ p ∈ ps, p.1.size ≤ 100
  below : Below w0.heap.size w0 wr

theorem PutAt.keep {w0 wr w' : World} {ab g i : Nat} {y : It} {ps : List (ByteArray × Int)} (h : PutAt w0 wr ab g y ps i) (hb : Below wr.heap.size wr w') : PutAt w0 w' ab g y ps i := by
  obtain ⟨kv, vv, ss, hm, hk⟩ := h.map
  exact ⟨⟨kv, vv, ss, hm.keepB hb, hk⟩, (hb.block ab (lt_of_block h.act)).trans h.act, h.len, h.size, h.below.trans (hb.mono h.below.size)⟩

theorem PutAt.put {w0 wa w2 : World} {ab g i : Nat} {y : It} {kv vv kv' vv' : Value} {ps ss ss' : List (ByteArray × Int)} {k : ByteArray} {z : Int} (h : PutAt w0 wa ab g y ps i) (hm : MapAt wa w0.heap.size g kv vv ss) (hk' : Kept (delP ps k ++ [(k, z)]) ss') (ht : Turned wa w2 w0.heap.size g kv vv kv' vv' ss') (hs : k.size ≤ 100) :
    PutAt w0 w2 ab g y (delP ps k ++ [(k, z)]) (i + 1) := by
  refine ⟨⟨kv', vv', ss', ht.map, hk'⟩, hm.far ht.kept h.act (by decide) (by decide), ?_, fun p hp => ?_, h.below.trans (ht.below hm h.below.size)⟩
  · have := delP_le ps k
    have := h.len
    rw [List.length_append]; simp; omega
  · rcases List.mem_append.1 hp with hp | hp
    · exact h.size p (delP_mem hp)
    · have : p = (k, z) := by simpa using hp
      rw [this]; exact hs

theorem PutAt.c1 {w0 wr : World} {ab g i : Nat} {y : It} {ps : List (ByteArray × Int)} (h : PutAt w0 wr ab g y ps i) : wr.cell? ⟨ab, 1, none⟩ = some (.string y.key) := (cell_of_heap h.act).trans rfl
theorem PutAt.c2 {w0 wr : World} {ab g i : Nat} {y : It} {ps : List (ByteArray × Int)} (h : PutAt w0 wr ab g y ps i) : wr.cell? ⟨ab, 2, none⟩ = some (.int .u64 y.val) := (cell_of_heap h.act).trans rfl
theorem PutAt.c3 {w0 wr : World} {ab g i : Nat} {y : It} {ps : List (ByteArray × Int)} (h : PutAt w0 wr ab g y ps i) : wr.cell? ⟨ab, 3, none⟩ = some (.string y.high) := (cell_of_heap h.act).trans rfl

/-- The law's act, and all below: kept. -/
structure ActAt (w0 wr : World) (ab : Nat) (y : It) : Prop where
  act : wr.heap[ab]? = some (.cells #[.int .i64 y.kind, .string y.key, .int .u64 y.val, .string y.high, .int .i64 y.limit] 31 (0, 0))
  below : Below w0.heap.size w0 wr
theorem ActAt.keep {w0 wr w' : World} {ab : Nat} {y : It} (h : ActAt w0 wr ab y) (hb : Below wr.heap.size wr w') : ActAt w0 w' ab y := ⟨(hb.block ab (lt_of_block h.act)).trans h.act, h.below.trans (hb.mono h.below.size)⟩
theorem ActAt.turn {w0 wr w' : World} {ab g : Nat} {y : It} {kv vv kv' vv' : Value} {ss ss' : List (ByteArray × Int)} (h : ActAt w0 wr ab y) (hm : MapAt wr w0.heap.size g kv vv ss) (ht : Turned wr w' w0.heap.size g kv vv kv' vv' ss') : ActAt w0 w' ab y := ⟨hm.far ht.kept h.act (by decide) (by decide), h.below.trans (ht.below hm h.below.size)⟩
theorem ActAt.c1 {w0 wr : World} {ab : Nat} {y : It} (h : ActAt w0 wr ab y) : wr.cell? ⟨ab, 1, none⟩ = some (.string y.key) := (cell_of_heap h.act).trans rfl
theorem ActAt.c2 {w0 wr : World} {ab : Nat} {y : It} (h : ActAt w0 wr ab y) : wr.cell? ⟨ab, 2, none⟩ = some (.int .u64 y.val) := (cell_of_heap h.act).trans rfl
theorem ActAt.c3 {w0 wr : World} {ab : Nat} {y : It} (h : ActAt w0 wr ab y) : wr.cell? ⟨ab, 3, none⟩ = some (.string y.high) := (cell_of_heap h.act).trans rfl

theorem fineP_big {ps : List (ByteArray × Int)} {i : Nat} (hl : ps.length ≤ i) (hi : i ≤ 1000) (hs : ∀ p ∈ ps, p.1.size ≤ 100) : FineP ps := ⟨by omega, fun p hp => Nat.le_trans (hs p hp) (by omega)⟩

set_option maxHeartbeats 16000000 in
set_option maxRecDepth 100000 in
theorem pairsApart_any (ao : Option Addr) (len cap : Nat) (X : Nat → It) (kind val limit : Int) (key high : ByteArray) (w : World) (hx : Items w w.heap.size ao len X) (hok : ∀ i, i < len → (X i).ok) (hlen : len ≤ 9223372036854775807) (hkk : key.size ≤ 140737488355328) (hhh : high.size ≤ 140737488355328) :
    Calls Try.prog 5 #[.slice ao len cap, .agg #[.int .i64 kind, .string key, .int .u64 val, .string high, .int .i64 limit]] w fun e w' => e = .returned (.bool true) ∧ Below w.heap.size w w' := by
  have A0 := one_alloc w (.cells #[.int .i64 kind, .string key, .int .u64 val, .string high, .int .i64 limit] 31)
  have hx0 : Items (w.alloc (.cells #[.int .i64 kind, .string key, .int .u64 val, .string high, .int .i64 limit] 31)) (w.alloc (.cells #[.int .i64 kind, .string key, .int .u64 val, .string high, .int .i64 limit] 31)).heap.size ao len X := fun i hi => by
    obtain ⟨b, off, h1, h2, h3⟩ := (hx.keep A0.2) i hi
    exact ⟨b, off, h1, by simp; omega, h3⟩
  have HLI := Lib.hid (lightA_any ao len cap X _ hx0 hok hlen)
  have HX := Lib.hid hx
  have HK := Lib.hid hok
  have HA0 := Lib.hid (show ActAt w (w.alloc (.cells #[.int .i64 kind, .string key, .int .u64 val, .string high, .int .i64 limit] 31)) w.heap.size ⟨kind, key, val, high, limit⟩ from ⟨A0.1, A0.2⟩)
  have HHH := Lib.hid hhh
  clear hx hok A0 hx0 hhh
  go_enter Try.func5, Try.ntmps5
  go_wp2_with fail
  refine HLI.out.mono ?_
  rintro e w1 ⟨b, rfl, hl, hb1⟩
  have HA1 := Lib.hid (HA0.out.keep hb1)
  have q1 : w1.cell? ⟨w.heap.size, 1, none⟩ = some (Value.string key) := HA1.out.c1
  by_cases hbk : b = true ∧ key.size ≤ 100
  · obtain ⟨rfl, hk100⟩ := hbk
    obtain ⟨hsz, h60⟩ := hl rfl
    have gk : (key.size : Int) ≤ 100 := by omega
    have HSZ := Lib.hid hsz
    have HNEW := Lib.hid (mnew_any (.slice none 0 0) [] w1 ⟨none, 0, rfl, Nat.le_refl _, by omega, fun h => absurd h (by simp)⟩ (by simp) (by simp))
    clear hl hb1 hsz
    go_wp2_with fail
    refine HNEW.out.mono ?_
    rintro e w2 ⟨g, ss0, rfl, ⟨kv0, vv0, hm0⟩, hk0, hb2⟩
    have HA2 := HA1.out.keep hb2
    have HP0 := Lib.hid (show PutAt w w2 w.heap.size g ⟨kind, key, val, high, limit⟩ [] 0 from ⟨⟨kv0, vv0, ss0, hm0.base HA1.out.below.size, hk0⟩, HA2.act, Nat.le_refl _, (fun p hp => by cases hp), HA2.below⟩)
    clear hm0 hk0 hb2 HNEW HA2 q1
    go_wp2
    go_loopw [36] (fun si wr => ∃ (i : Nat) (ps : List (ByteArray × Int)), si = .int .i64 i ∧ i ≤ len ∧ Hid (PutAt w wr w.heap.size g ⟨kind, key, val, high, limit⟩ ps i)) (fun si _ => len - (intOf si).toNat)
    case atStart => exact ⟨0, [], rfl, Nat.zero_le _, HP0⟩
    case round =>
      obtain ⟨i, ps, rfl, hi, hP⟩ := hrel
      by_cases hlt : i < len
      · obtain ⟨b, off, rfl, hbN, hc⟩ := (HX.out.keep hP.out.below) i hlt
        have hsz := HSZ.out i hlt
        generalize X i = x at *
        obtain ⟨xkind, xkey, xval, xhigh, xlimit⟩ := x
        have c0 := hc 0 _ rfl
        have c1 := hc 1 _ rfl
        have c2 := hc 2 _ rfl
        have c3 := hc 3 _ rfl
        have c4 := hc 4 _ rfl
        rw [Nat.add_zero] at c0
        have A1 := one_alloc wr (.cells #[.int .i64 xkind, .string xkey, .int .u64 xval, .string xhigh, .int .i64 xlimit] 31)
        have P1 := Lib.hid (hP.out.keep A1.2)
        have s1 : xkey.size ≤ 100 := hsz.1
        obtain ⟨kv, vv, ss, hm, hkp⟩ := P1.out.map
        have HPUT := Lib.hid (mput_any _ g kv vv xkey xval ps ss _ hm P1.out.below.size ((fineP_of P1.out.len (by omega) P1.out.size).fine hkp) (by omega) hkp)
        have HM := Lib.hid hm
        have HS := Lib.hid s1
        clear hc hsz A1 s1 hm hkp
        go_wp2_with fail
        refine HPUT.out.mono ?_
        rintro e w3 ⟨kv', vv', ss', rfl, hk', ht⟩
        have HP3 := Lib.hid (P1.out.put HM.out hk' ht HS.out)
        clear hk' ht
        go_wp2
        go_roundw
        case rel => exact ⟨i + 1, _, by go_num, by omega, HP3⟩
        case measure => simp [intOf]; omega
      · obtain rfl : i = len := by omega
        obtain ⟨kv, vv, ss, hm, hkp⟩ := hP.out.map
        have HFP := Lib.hid (fineP_of hP.out.len (by omega) hP.out.size)
        have HA := Lib.hid (mall_any _ g kv vv ss wr hm (HFP.out.fine hkp).len)
        have M0 := Lib.hid hm
        have K0 := Lib.hid hkp
        have Y0 := Lib.hid (show ActAt w wr w.heap.size ⟨kind, key, val, high, limit⟩ from ⟨hP.out.act, hP.out.below⟩)
        clear hm hkp
        go_wp2_with fail
        refine HA.out.mono ?_
        rintro e w3 ⟨va, rfl, hO3, hb3⟩
        have Y3 := Lib.hid (Y0.out.keep hb3)
        have M3 := Lib.hid (M0.out.keepB hb3)
        have O3 := Lib.hid hO3
        obtain ⟨ao3, n3, c3, rfl⟩ := hO3.open3
        have HCL := Lib.hid (mclone_any _ g kv vv ss w3 M3.out (HFP.out.fine K0.out).len Y3.out.below.size)
        clear hO3 hb3 HA
        go_wp2_with fail
        refine HCL.out.mono ?_
        rintro e w4 ⟨gc, kvc, vvc, rfl, hmc, hgc, _, hvc, hb4⟩
        have Y4 := Lib.hid (Y3.out.keep hb4)
        have M4 := Lib.hid (M3.out.keepB hb4)
        have C4 := Lib.hid hmc
        have O4 := Lib.hid (O3.out.keep hb4)
        have HG := Lib.hid (show g < gc from Nat.lt_of_lt_of_le (lt_of_block M3.out.blk) hgc)
        have V4 := Lib.hid (show ApartV vv vvc from fun b h1 h2 => by have := M3.out.vlt b h1; have := hvc b h2; omega)
        have k1 : w4.cell? ⟨w.heap.size, 1, none⟩ = some (Value.string key) := Y4.out.c1
        have k2 : w4.cell? ⟨w.heap.size, 2, none⟩ = some (Value.int .u64 val) := Y4.out.c2
        have HPUT := Lib.hid (mput_any _ g kv vv key val ps ss _ M4.out Y4.out.below.size (HFP.out.fine K0.out) hkk K0.out)
        clear hmc hgc hvc hb4 HCL
        go_wp2_with fail
        refine HPUT.out.mono ?_
        rintro e w5 ⟨kv5, vv5, ss5, rfl, hk5, ht5⟩
        have Y5 := Lib.hid (Y4.out.turn M4.out ht5)
        have M5 := Lib.hid ht5.map
        have C5 := Lib.hid (C4.out.apart M4.out ht5.kept (by have := HG.out; omega) V4.out.symm)
        have O5 := Lib.hid (O4.out.keepM M4.out ht5.kept)
        have V5 := Lib.hid (V4.out.symm.next C4.out.vlt ht5.nv)
        have K5 := Lib.hid hk5
        have HFP5 := Lib.hid (show FineP (delP ps key ++ [(key, val)]) from fineP_big (i := 100) (by
          have := delP_le ps key
          have := hP.out.len
          rw [List.length_append]; simp; omega) (by omega) (fun p hp => by
          rcases List.mem_append.1 hp with hp | hp
          · exact hP.out.size p (delP_mem hp)
          · have : p = (key, val) := by simpa using hp
            rw [this]; exact hk100))
        clear k1 k2 hk5 ht5 HPUT
        have k3 : w5.cell? ⟨w.heap.size, 3, none⟩ = some (Value.string high) := Y5.out.c3
        have HDEL := Lib.hid (mdel_any _ g kv5 vv5 high _ ss5 _ M5.out Y5.out.below.size (HFP5.out.fine K5.out) HHH.out K5.out)
        go_wp2_with fail
        refine HDEL.out.mono ?_
        rintro e w6 ⟨kv6, vv6, ss6, rfl, hk6, ht6⟩
        have Y6 := Lib.hid (Y5.out.turn M5.out ht6)
        have M6 := Lib.hid ht6.map
        have C6 := Lib.hid (C5.out.apart M5.out ht6.kept (by have := HG.out; omega) V5.out)
        have O6 := Lib.hid (O5.out.keepM M5.out ht6.kept)
        have V6 := Lib.hid (V5.out.next C5.out.vlt ht6.nv)
        have HF6 := Lib.hid (show ss6.length ≤ 137438953472 by rw [← hk6.len]; have := delP_le (delP ps key ++ [(key, val)]) high; have := HFP5.out.len; omega)
        clear k3 hk6 ht6 HDEL
        have HA := Lib.hid (mall_any _ gc kvc vvc ss w6 C6.out (HFP.out.fine K0.out).len)
        go_wp2_with fail
        refine HA.out.mono ?_
        rintro e w7 ⟨vb, rfl, hO7, hb7⟩
        have Y7 := Lib.hid (Y6.out.keep hb7)
        have M7 := Lib.hid (M6.out.keepB hb7)
        have C7 := Lib.hid (C6.out.keepB hb7)
        have HS := Lib.hid (rsame_true _ _ ss w7 hO7.rd (O6.out.keep hb7).rd)
        obtain ⟨ao7, n7, c7, rfl⟩ := hO7.open3
        clear hO7 hb7 HA
        go_wp2_with fail
        refine HS.out.mono ?_
        rintro e w8 ⟨rfl, hd8⟩
        have D8 := drew_below hd8 w7.heap.size
        have Y8 := Lib.hid (Y7.out.keep D8)
        have M8 := Lib.hid (M7.out.keepB D8)
        have C8 := Lib.hid (C7.out.keepB D8)
        have HA := Lib.hid (mall_any _ g kv6 vv6 ss6 w8 M8.out HF6.out)
        clear hd8 D8 HS
        go_wp2_with fail
        refine HA.out.mono ?_
        rintro e w9 ⟨vd, rfl, hO9, hb9⟩
        have Y9 := Lib.hid (Y8.out.keep hb9)
        have M9 := Lib.hid (M8.out.keepB hb9)
        have C9 := Lib.hid (C8.out.keepB hb9)
        have O9 := Lib.hid hO9
        obtain ⟨ao9, n9, c9, rfl⟩ := hO9.open3
        have HDEL := Lib.hid (mdel_any _ gc kvc vvc key ps ss _ C9.out Y9.out.below.size (HFP.out.fine K0.out) hkk K0.out)
        clear hO9 hb9 HA
        have k1 : w9.cell? ⟨w.heap.size, 1, none⟩ = some (Value.string key) := Y9.out.c1
        go_wp2_with fail
        refine HDEL.out.mono ?_
        rintro e w10 ⟨kv10, vv10, ss10, rfl, hk10, ht10⟩
        have Y10 := Lib.hid (Y9.out.turn C9.out ht10)
        have M10 := Lib.hid (M9.out.apart C9.out ht10.kept (by have := HG.out; omega) V6.out.symm)
        have O10 := Lib.hid (O9.out.keepM C9.out ht10.kept)
        clear hk10 ht10 HDEL k1
        have HA := Lib.hid (mall_any _ g kv6 vv6 ss6 w10 M10.out HF6.out)
        go_wp2_with fail
        refine HA.out.mono ?_
        rintro e w11 ⟨ve, rfl, hO11, hb11⟩
        have Y11 := Lib.hid (Y10.out.keep hb11)
        have HS := Lib.hid (rsame_true _ _ ss6 w11 hO11.rd (O10.out.keep hb11).rd)
        obtain ⟨ao11, n11, c11, rfl⟩ := hO11.open3
        clear hO11 hb11 HA
        go_wp2_with fail
        refine HS.out.mono ?_
        rintro e w12 ⟨rfl, hd12⟩
        have Y12 := Lib.hid (Y11.out.keep (drew_below hd12 _))
        clear hd12 HS M0 M3 M4 M5 M6 M7 M8 M9 M10 C4 C5 C6 C7 C8 C9 O3 O4 O5 O6 O9 O10 Y0 Y3 Y4 Y5 Y6 Y7 Y8 Y9 Y10 Y11
        have k1 : w12.cell? ⟨w.heap.size, 1, none⟩ = some (Value.string key) := Y12.out.c1
        have k2 : w12.cell? ⟨w.heap.size, 2, none⟩ = some (Value.int .u64 val) := Y12.out.c2
        have HN := Lib.hid (mput_nil key 1 w12)
        go_wp2_with fail
        refine HN.out.mono ?_
        rintro e w13 ⟨rfl, rfl⟩
        have HN := Lib.hid (mget_nil key w12)
        go_wp2_with fail
        refine HN.out.mono ?_
        rintro e w13 ⟨rfl, hb13⟩
        have Y13 := Lib.hid (Y12.out.keep hb13)
        clear k1 k2 hb13 Y12
        have k1 : w13.cell? ⟨w.heap.size, 1, none⟩ = some (Value.string key) := Y13.out.c1
        have HN := Lib.hid (mdel_nil key w13)
        go_wp2_with fail
        refine HN.out.mono ?_
        rintro e w14 ⟨rfl, rfl⟩
        have HN := Lib.hid (mnext_nil key w13)
        go_wp2_with fail
        refine HN.out.mono ?_
        rintro e w14 ⟨rfl, hb14⟩
        have Y14 := Lib.hid ((Y13.out.keep hb14).keep (one_alloc w14 (.cells #[.string ⟨#[]⟩, .int .u64 0] 40)).2)
        clear k1 hb14 Y13
        have HN := Lib.hid (mmax_nil (w14.alloc (.cells #[.string ⟨#[]⟩, .int .u64 0] 40)))
        go_wp2_with fail
        refine HN.out.mono ?_
        rintro e w15 ⟨rfl, hb15⟩
        have Y15 := Lib.hid ((Y14.out.keep hb15).keep (one_alloc w15 (.cells #[.string ⟨#[]⟩, .int .u64 0] 40)).2)
        clear hb15 Y14
        have hs16 : (w15.alloc (.cells #[.string ⟨#[]⟩, .int .u64 0] 40)).heap.size = w15.heap.size + 1 := by simp
        have Y17 := Lib.hid (Y15.out.keep (one_alloc (w15.alloc (.cells #[.string ⟨#[]⟩, .int .u64 0] 40)) (.cells #[.slice none 0 0, .slice none 0 0] 52)).2)
        have MP := Lib.hid (show MapAt ((w15.alloc (.cells #[.string ⟨#[]⟩, .int .u64 0] 40)).alloc (.cells #[.slice none 0 0, .slice none 0 0] 52)) w.heap.size (w15.heap.size + 1) (.slice none 0 0) (.slice none 0 0) [] from ⟨by rw [← hs16]; exact heap_alloc_new _ _, by rw [← hs16]; exact Y15.out.below.size, Or.inl ⟨rfl, rfl⟩, Or.inl ⟨rfl, rfl⟩⟩)
        have HPUT := Lib.hid (mput_any _ (w15.heap.size + 1) _ _ key val [] [] _ MP.out Y17.out.below.size ⟨List.Pairwise.nil, by simp, by simp⟩ hkk Kept.nil)
        have k1 : ((w15.alloc (.cells #[.string ⟨#[]⟩, .int .u64 0] 40)).alloc (.cells #[.slice none 0 0, .slice none 0 0] 52)).cell? ⟨w.heap.size, 1, none⟩ = some (Value.string key) := Y17.out.c1
        have k2 : ((w15.alloc (.cells #[.string ⟨#[]⟩, .int .u64 0] 40)).alloc (.cells #[.slice none 0 0, .slice none 0 0] 52)).cell? ⟨w.heap.size, 2, none⟩ = some (Value.int .u64 val) := Y17.out.c2
        clear hs16
        go_wp2_with fail
        refine HPUT.out.mono ?_
        rintro e w18 ⟨kvp, vvp, ssp, rfl, hkp, htp⟩
        have Y18 := Lib.hid (Y17.out.turn MP.out htp)
        have HGET := Lib.hid (mget_any _ (w15.heap.size + 1) _ _ key _ ssp w18 htp.map ((fineP_big (i := 1) (by simp [delP]) (by omega) (fun p hp => by
          have : p = (key, val) := by simpa [delP] using hp
          rw [this]; exact hk100)).fine hkp) hkk hkp)
        rw [getP_put, if_pos rfl] at HGET
        clear k1 k2 hkp htp HPUT
        have k1 : w18.cell? ⟨w.heap.size, 1, none⟩ = some (Value.string key) := Y18.out.c1
        go_wp2_with fail
        refine HGET.out.mono ?_
        rintro e w19 ⟨rfl, hb19⟩
        have Y19 := Lib.hid (Y18.out.keep hb19)
        clear k1 hb19 Y18 HGET
        have HC : Hid (∀ W, Below w19.heap.size w19 W → W.cell? ⟨w.heap.size, 1, none⟩ = some (.string key) ∧ W.cell? ⟨w.heap.size, 2, none⟩ = some (.int .u64 val) ∧ Below w19.heap.size w19 W) := Lib.hid (fun W h => ⟨(Y19.out.keep h).c1, (Y19.out.keep h).c2, h⟩)
        have hS0 := HC.out w19.drew (Below.refl _ _).drew
        have KLEN := Lib.hid (fun W => mlen_nil W)
        have KSC := Lib.hid (fun W => mscan_nil ⟨#[]⟩ key 9 W)
        have KCL := Lib.hid (fun W => mclone_nil W)
        have KALL : Hid (∀ W, (W.cell? ⟨w.heap.size, 1, none⟩ = some (.string key) ∧ W.cell? ⟨w.heap.size, 2, none⟩ = some (.int .u64 val) ∧ Below w19.heap.size w19 W) → Calls Try.prog 17 #[.pointer none] W fun e w' => ∃ ao c, e = .returned (.slice ao 0 c) ∧ Below w19.heap.size w19 w') := Lib.hid (fun W h => (mall_nil W).mono (fun e w' ⟨ao, c, h1, h2⟩ => ⟨ao, c, h1, h.2.2.trans (h2.mono h.2.2.size)⟩))
        have KLIV : Hid (∀ W, (W.cell? ⟨w.heap.size, 1, none⟩ = some (.string key) ∧ W.cell? ⟨w.heap.size, 2, none⟩ = some (.int .u64 val) ∧ Below w19.heap.size w19 W) → Calls Try.prog 7 #[] W fun e w' => e = .returned (.bool true) ∧ Below w19.heap.size w19 w') := Lib.hid (fun W h => (lives_true W).mono (fun e w' ⟨h1, h2⟩ => ⟨h1, h.2.2.trans (h2.mono h.2.2.size)⟩))
        have HY := Lib.hid Y19.out.below
        clear Y19
        go_wp2
        go_region_held_law (fun w' => w'.cell? ⟨w.heap.size, 1, none⟩ = some (.string key) ∧ w'.cell? ⟨w.heap.size, 2, none⟩ = some (.int .u64 val) ∧ Below w19.heap.size w19 w') (first | exact hS0 | exact HC.out _ hA20 | exact HC.out _ hA21 | assumption)
          (first
            | (go_at_call 22; (with_reducible refine (KLEN.out _).mono ?_); rintro e w20 ⟨rfl, rfl⟩)
            | (go_at_call 23; (with_reducible refine (KSC.out _).mono ?_); rintro e w20 ⟨rfl, rfl⟩)
            | (go_at_call 19; (with_reducible refine (KCL.out _).mono ?_); rintro e w20 ⟨rfl, rfl⟩)
            | (go_at_call 17; (with_reducible refine (KALL.out _ (by assumption)).mono ?_); rintro e w20 ⟨ao20, c20, rfl, hA20⟩)
            | (go_at_call 7; (with_reducible refine (KLIV.out _ (by assumption)).mono ?_); rintro e w21 ⟨rfl, hA21⟩))
        go_wp2
        go_ret
        exact ⟨rfl, HY.out.trans (hA21.mono HY.out.size)⟩
  · have HL := Lib.hid (lives_true w1)
    cases b with
    | false =>
      clear hl hb1
      go_wp2_with fail
      refine HL.out.mono ?_
      rintro e w2 ⟨rfl, hb2⟩
      go_wp2
      go_ret
      exact ⟨rfl, HA1.out.below.trans (hb2.mono HA1.out.below.size)⟩
    | true =>
      have gk : (100 : Int) < key.size := by
        have : ¬ key.size ≤ 100 := fun h => hbk ⟨rfl, h⟩
        omega
      clear hl hb1 hbk
      go_wp2_with fail
      refine HL.out.mono ?_
      rintro e w2 ⟨rfl, hb2⟩
      go_wp2
      go_ret
      exact ⟨rfl, HA1.out.below.trans (hb2.mono HA1.out.below.size)⟩
end Go.Proofs.Ytpdcmgillinooaa
