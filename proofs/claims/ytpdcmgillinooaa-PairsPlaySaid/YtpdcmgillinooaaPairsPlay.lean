/- The law PairsPlay, walked: whatever is put, taken away and asked for, it answers true. Condition: the list's cells are there. -/
import Derived.Test.YtpdcmgillinooaaMapAsks
import Derived.Test.YtpdcmgillinooaaPlayBase
namespace Go.Proofs.Ytpdcmgillinooaa
open Go.RowKit

/-- A map and the document's row, where some acts are done. -/
structure PlayAt (w0 wr : World) (g : Nat) (v : Value) (ps : List (ByteArray × Int)) (i : Nat) : Prop where
  map : ∃ kv vv ss, MapAt wr w0.heap.size g kv vv ss ∧ Kept ps ss
  row : OwnP wr w0.heap.size v ps
  len : ps.length ≤ i
  size : ∀ p ∈ ps, p.1.size ≤ 100
  below : Below w0.heap.size w0 wr

theorem PlayAt.keep {w0 wr w' : World} {g i : Nat} {v : Value} {ps : List (ByteArray × Int)} (h : PlayAt w0 wr g v ps i) (hb : Below wr.heap.size wr w') : PlayAt w0 w' g v ps i := by
  obtain ⟨kv, vv, ss, hm, hk⟩ := h.map
  exact ⟨⟨kv, vv, ss, hm.keepB hb, hk⟩, h.row.keep hb, h.len, h.size, h.below.trans (hb.mono h.below.size)⟩
theorem PlayAt.next {w0 wr : World} {g i : Nat} {v : Value} {ps : List (ByteArray × Int)} (h : PlayAt w0 wr g v ps i) : PlayAt w0 wr g v ps (i + 1) := ⟨h.map, h.row, Nat.le_succ_of_le h.len, h.size, h.below⟩


/-- What the law's own Put and the document's leave. -/
theorem play_put {w0 wa w2 w3 : World} {g i : Nat} {v v3 : Value} {ps : List (ByteArray × Int)} {kv vv kv' vv' : Value} {ss ss' : List (ByteArray × Int)} {k : ByteArray} {z : Int} (h : PlayAt w0 wa g v ps i) (hm : MapAt wa w0.heap.size g kv vv ss) (hk' : Kept (delP ps k ++ [(k, z)]) ss') (ht : Turned wa w2 w0.heap.size g kv vv kv' vv' ss') (hO : OwnP w3 w2.heap.size v3 (delP ps k ++ [(k, z)])) (hb : Below w2.heap.size w2 w3) (hs : k.size ≤ 100) :
    PlayAt w0 w3 g v3 (delP ps k ++ [(k, z)]) (i + 1) := by
  have hb2 := ht.below hm h.below.size
  refine ⟨⟨kv', vv', ss', ht.map.keepB hb, hk'⟩, hO.base (Nat.le_trans h.below.size hb2.size), ?_, fun p hp => ?_, (h.below.trans hb2).trans (hb.mono (Nat.le_trans h.below.size hb2.size))⟩
  · have := delP_le ps k
    have := h.len
    rw [List.length_append]; simp; omega
  · rcases List.mem_append.1 hp with hp | hp
    · exact h.size p (delP_mem hp)
    · have : p = (k, z) := by simpa using hp
      rw [this]; exact hs

theorem play_del {w0 wa w2 w3 : World} {g i : Nat} {v v3 : Value} {ps : List (ByteArray × Int)} {kv vv kv' vv' : Value} {ss ss' : List (ByteArray × Int)} {k : ByteArray} (h : PlayAt w0 wa g v ps i) (hm : MapAt wa w0.heap.size g kv vv ss) (hk' : Kept (delP ps k) ss') (ht : Turned wa w2 w0.heap.size g kv vv kv' vv' ss') (hO : OwnP w3 w2.heap.size v3 (delP ps k)) (hb : Below w2.heap.size w2 w3) :
    PlayAt w0 w3 g v3 (delP ps k) (i + 1) := by
  have hb2 := ht.below hm h.below.size
  refine ⟨⟨kv', vv', ss', ht.map.keepB hb, hk'⟩, hO.base (Nat.le_trans h.below.size hb2.size), ?_, fun p hp => h.size p (delP_mem hp), (h.below.trans hb2).trans (hb.mono (Nat.le_trans h.below.size hb2.size))⟩
  have := delP_le ps k
  have := h.len
  omega

theorem PlayAt.asks {w0 wr : World} {g i : Nat} {v : Value} {ps : List (ByteArray × Int)} (h : PlayAt w0 wr g v ps i) (hi : i ≤ 100) (kind val limit : Int) (key high : ByteArray) (h1 : key.size ≤ 100) (h2 : high.size ≤ 100) (h3 : -9223372036854775808 ≤ limit ∧ limit ≤ 9223372036854775807) :
    Calls Try.prog 14 #[.pointer (some ⟨g, 0, none⟩), v, .agg #[.int .i64 kind, .string key, .int .u64 val, .string high, .int .i64 limit]] wr fun e w' => e = .returned (.bool true) ∧ Below wr.heap.size wr w' := by
  obtain ⟨kv, vv, ss, hm, hk⟩ := h.map
  exact asks_any _ g kv vv v ⟨kind, key, val, high, limit⟩ ps ss wr hm h.row.rd hk (fineP_of h.len hi h.size) (show key.size ≤ _ by omega) (show high.size ≤ _ by omega) h3

set_option maxHeartbeats 16000000 in
set_option maxRecDepth 100000 in
theorem pairsPlay_any (ao : Option Addr) (len cap : Nat) (X : Nat → It) (w : World) (hx : Items w w.heap.size ao len X) (hok : ∀ i, i < len → (X i).ok) (hlen : len ≤ 9223372036854775807) :
    Calls Try.prog 3 #[.slice ao len cap] w fun e w' => e = .returned (.bool true) ∧ Below w.heap.size w w' := by
  have HLI := Lib.hid (lightA_any ao len cap X w hx hok hlen)
  have HX := Lib.hid hx
  have HK := Lib.hid hok
  clear hx hok
  go_enter Try.func3, Try.ntmps3
  go_wp2_with fail
  refine HLI.out.mono ?_
  rintro e w1 ⟨b, rfl, hl, hb1⟩
  have HB1 := Lib.hid hb1
  cases b with
  | false =>
    have HL := Lib.hid (lives_true w1)
    clear hl hb1
    go_wp2_with fail
    refine HL.out.mono ?_
    rintro e w2 ⟨rfl, hb2⟩
    go_wp2
    go_ret
    exact ⟨rfl, HB1.out.trans (hb2.mono HB1.out.size)⟩
  | true =>
    obtain ⟨hsz, h60⟩ := hl rfl
    have HSZ := Lib.hid hsz
    have HNEW := Lib.hid (mnew_any (.slice none 0 0) [] w1 ⟨none, 0, rfl, Nat.le_refl _, by omega, fun h => absurd h (by simp)⟩ (by simp) (by simp))
    clear hl hb1 hsz
    go_wp2_with fail
    refine HNEW.out.mono ?_
    rintro e w2 ⟨g, ss0, rfl, ⟨kv0, vv0, hm0⟩, hk0, hb2⟩
    have HP0 := Lib.hid (show PlayAt w w2 g (.slice none 0 0) [] 0 from ⟨⟨kv0, vv0, ss0, hm0.base HB1.out.size, hk0⟩, OwnP.nil _ _, Nat.le_refl _, (fun p hp => by cases hp), HB1.out.trans (hb2.mono HB1.out.size)⟩)
    clear hm0 hk0 hb2
    go_wp2
    go_loopw [4, 18] (fun sv si wr => ∃ (i : Nat) (ps : List (ByteArray × Int)), si = .int .i64 i ∧ i ≤ len ∧ Hid (PlayAt w wr g sv ps i)) (fun _ si _ => len - (intOf si).toNat)
    case atStart => exact ⟨0, [], rfl, Nat.zero_le _, HP0⟩
    case round =>
      obtain ⟨i, ps, rfl, hi, hP⟩ := hrel
      by_cases hlt : i < len
      · obtain ⟨b, off, rfl, hbN, hc⟩ := (HX.out.keep hP.out.below) i hlt
        have hk := HK.out i hlt
        have hsz := HSZ.out i hlt
        generalize X i = x at *
        obtain ⟨kind, key, val, high, limit⟩ := x
        have c0 := hc 0 _ rfl
        have c1 := hc 1 _ rfl
        have c2 := hc 2 _ rfl
        have c3 := hc 3 _ rfl
        have c4 := hc 4 _ rfl
        rw [Nat.add_zero] at c0
        obtain ⟨ro, rc, hv⟩ := hP.out.row.open
        subst hv
        have hpl := hP.out.len
        have A1 := one_alloc wr (.cells #[.int .i64 kind, .string key, .int .u64 val, .string high, .int .i64 limit] 31)
        have HA := Lib.hid A1
        have P1 := Lib.hid (hP.out.keep A1.2)
        have HG := Lib.hid (rget_any _ key ps _ P1.out.row.rd)
        have s1 : key.size ≤ 100 := hsz.1
        have s2 : high.size ≤ 100 := hsz.2
        have l1 := hk.2.1
        have HS := Lib.hid (And.intro s1 (And.intro s2 l1))
        clear hc hk hsz A1 s1 s2 l1
        generalize ps.length = pn at *
        go_wp2_with fail
        refine HG.out.mono ?_
        rintro e wq ⟨rfl, rfl⟩
        have P2 := Lib.hid P1.out.next
        have q0 : _ = some (Value.int .i64 kind) := (cell_of_heap HA.out.1 (o := 0)).trans rfl
        have q1 : _ = some (Value.string key) := (cell_of_heap HA.out.1 (o := 1)).trans rfl
        have q2 : _ = some (Value.int .u64 val) := (cell_of_heap HA.out.1 (o := 2)).trans rfl
        obtain ⟨kv, vv, ss, hm, hkp⟩ := P1.out.map
        have HM := Lib.hid hm
        have HKP := Lib.hid hkp
        have HFP := Lib.hid (fineP_of P1.out.len (by omega) P1.out.size)
        clear hm hkp
        by_cases hk0 : kind = 0
        · subst hk0
          have HPUT := Lib.hid (mput_any _ g kv vv key val ps ss _ HM.out P1.out.below.size (HFP.out.fine HKP.out) (by have := HS.out.1; omega) HKP.out)
          go_wp2_with fail
          refine HPUT.out.mono ?_
          rintro e w3 ⟨kv', vv', ss', rfl, hk', ht⟩
          have HT := Lib.hid ht
          have HK' := Lib.hid hk'
          have HA3 := Lib.hid (HM.out.far ht.kept HA.out.1 (by decide) (by decide))
          have HRP := Lib.hid (rput_any _ key val ps w3 (P1.out.row.keepM HM.out ht.kept).rd (by have := HFP.out.len; omega))
          clear ht hk' q0 q1 q2
          have q1 : _ = some (Value.string key) := (cell_of_heap HA3.out (o := 1)).trans rfl
          have q2 : _ = some (Value.int .u64 val) := (cell_of_heap HA3.out (o := 2)).trans rfl
          go_wp2_with fail
          refine HRP.out.mono ?_
          rintro e w4 ⟨v4, rfl, hO, hb⟩
          have HP4 := Lib.hid (play_put P1.out HM.out HK'.out HT.out hO hb HS.out.1)
          have HA4 := Lib.hid ((hb.block wr.heap.size (lt_of_block HA3.out)).trans HA3.out)
          obtain ⟨ao4, n4, c4', rfl⟩ := hO.open3
          have HASK := Lib.hid (HP4.out.asks (by omega) 0 val limit key high HS.out.1 HS.out.2.1 HS.out.2.2)
          clear hO hb q1 q2
          have r0 : w4.cell? ⟨wr.heap.size, 0, none⟩ = some (Value.int .i64 0) := (cell_of_heap HA4.out (o := 0)).trans rfl
          have r1 : w4.cell? ⟨wr.heap.size, 1, none⟩ = some (Value.string key) := (cell_of_heap HA4.out (o := 1)).trans rfl
          have r2 : w4.cell? ⟨wr.heap.size, 2, none⟩ = some (Value.int .u64 val) := (cell_of_heap HA4.out (o := 2)).trans rfl
          have r3 : w4.cell? ⟨wr.heap.size, 3, none⟩ = some (Value.string high) := (cell_of_heap HA4.out (o := 3)).trans rfl
          have r4 : w4.cell? ⟨wr.heap.size, 4, none⟩ = some (Value.int .i64 limit) := (cell_of_heap HA4.out (o := 4)).trans rfl
          go_wp2_with fail
          (with_reducible refine HASK.out.mono ?_)
          rintro e w5 ⟨rfl, hb5⟩
          have HP5 := Lib.hid (HP4.out.keep hb5)
          clear hb5
          go_wp2
          go_roundw
          case rel => exact ⟨i + 1, _, by go_num, by omega, HP5⟩
          case measure => simp [intOf]; omega
        · by_cases hk1 : kind = 1
          · subst hk1
            have HPUT := Lib.hid (mdel_any _ g kv vv key ps ss _ HM.out P1.out.below.size (HFP.out.fine HKP.out) (by have := HS.out.1; omega) HKP.out)
            go_wp2_with fail
            refine HPUT.out.mono ?_
            rintro e w3 ⟨kv', vv', ss', rfl, hk', ht⟩
            have HT := Lib.hid ht
            have HK' := Lib.hid hk'
            have HA3 := Lib.hid (HM.out.far ht.kept HA.out.1 (by decide) (by decide))
            have HRP := Lib.hid (rdelete_any _ key ps w3 (P1.out.row.keepM HM.out ht.kept).rd (by have := HFP.out.len; omega))
            clear ht hk' q0 q1 q2
            have q1 : _ = some (Value.string key) := (cell_of_heap HA3.out (o := 1)).trans rfl
            go_wp2_with fail
            refine HRP.out.mono ?_
            rintro e w4 ⟨v4, rfl, hO, hb⟩
            have HP4 := Lib.hid (play_del P1.out HM.out HK'.out HT.out hO hb)
            have HA4 := Lib.hid ((hb.block wr.heap.size (lt_of_block HA3.out)).trans HA3.out)
            obtain ⟨ao4, n4, c4', rfl⟩ := hO.open3
            have HASK := Lib.hid (HP4.out.asks (by omega) 1 val limit key high HS.out.1 HS.out.2.1 HS.out.2.2)
            clear hO hb q1
            have r0 : w4.cell? ⟨wr.heap.size, 0, none⟩ = some (Value.int .i64 1) := (cell_of_heap HA4.out (o := 0)).trans rfl
            have r1 : w4.cell? ⟨wr.heap.size, 1, none⟩ = some (Value.string key) := (cell_of_heap HA4.out (o := 1)).trans rfl
            have r2 : w4.cell? ⟨wr.heap.size, 2, none⟩ = some (Value.int .u64 val) := (cell_of_heap HA4.out (o := 2)).trans rfl
            have r3 : w4.cell? ⟨wr.heap.size, 3, none⟩ = some (Value.string high) := (cell_of_heap HA4.out (o := 3)).trans rfl
            have r4 : w4.cell? ⟨wr.heap.size, 4, none⟩ = some (Value.int .i64 limit) := (cell_of_heap HA4.out (o := 4)).trans rfl
            go_wp2_with fail
            (with_reducible refine HASK.out.mono ?_)
            rintro e w5 ⟨rfl, hb5⟩
            have HP5 := Lib.hid (HP4.out.keep hb5)
            clear hb5
            go_wp2
            go_roundw
            case rel => exact ⟨i + 1, _, by go_num, by omega, HP5⟩
            case measure => simp [intOf]; omega
          · have n0 : (kind == 0) = false := by simpa using hk0
            have n1 : (kind == 1) = false := by simpa using hk1
            have HASK := Lib.hid (P2.out.asks (by omega) kind val limit key high HS.out.1 HS.out.2.1 HS.out.2.2)
            have r3 : _ = some (Value.string high) := (cell_of_heap HA.out.1 (o := 3)).trans rfl
            have r4 : _ = some (Value.int .i64 limit) := (cell_of_heap HA.out.1 (o := 4)).trans rfl
            go_wp2_with fail
            (with_reducible refine HASK.out.mono ?_)
            rintro e w5 ⟨rfl, hb5⟩
            have HP5 := Lib.hid (P2.out.keep hb5)
            clear hb5
            go_wp2
            go_roundw
            case rel => exact ⟨i + 1, _, by go_num, by omega, HP5⟩
            case measure => simp [intOf]; omega
      · obtain rfl : i = len := by omega
        have HL := Lib.hid (lives_true wr)
        go_wp2_with fail
        refine HL.out.mono ?_
        rintro e w3 ⟨rfl, hb3⟩
        go_wp2
        go_ret
        exact ⟨rfl, hP.out.below.trans (hb3.mono hP.out.below.size)⟩
end Go.Proofs.Ytpdcmgillinooaa
