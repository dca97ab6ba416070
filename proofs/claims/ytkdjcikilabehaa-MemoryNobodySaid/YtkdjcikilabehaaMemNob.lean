/- bowerlaw26.MemoryNobody: a memory that no call made has nothing, and does nothing. Condition: an access that reads; words are words. -/
import Derived.Test.YtkdjcikilabehaaMemLight
namespace Go.Proofs.Ytkdjcikilabehaa
open Go.RowKit

set_option maxHeartbeats 4000000 in
set_option maxRecDepth 100000 in
theorem memNobody_any (a : AcV) (ks : List ByteArray) (hw : a.word < 18446744073709551616) (w : World) (hk : Rd w (.slice a.b.p1 a.b.n1 a.b.c1) (ks.map Value.string)) (h2 : a.b.n2 ≤ 9223372036854775807) (h3 : a.b.n3 ≤ 9223372036854775807) (h4 : a.b.n4 ≤ 9223372036854775807) (h7 : a.b.n7 ≤ 9223372036854775807) :
    Calls Try.prog 6 #[.agg #[.int .i64 a.k, .int .i64 a.at_, .int .u64 a.ver, .int .u64 a.word, .int .i64 a.b.k, .int .i64 a.b.lv, .string a.b.lo, .string a.b.hi, .bool a.b.la, .int .i64 a.b.nx, .slice a.b.p1 a.b.n1 a.b.c1, .slice a.b.p2 a.b.n2 a.b.c2, .slice a.b.p3 a.b.n3 a.b.c3, .int .i64 a.b.th, .int .i64 a.b.ac, .string a.b.ak, .int .u64 a.b.av, .slice a.b.p4 a.b.n4 a.b.c4, .slice a.b.p5 a.b.n5 a.b.c5, .slice a.b.p6 a.b.n6 a.b.c6, .slice a.b.p7 a.b.n7 a.b.c7, .int .i64 a.o.k, .string a.o.key, .string a.o.to, .int .u64 a.o.v, .int .i64 a.o.lim]] w fun e w' => e = .returned (.bool true) ∧ Below w.heap.size w w' := by
  obtain ⟨q1, q2, q3⟩ := two_blk w 48 48 #[.int .i64 a.k, .int .i64 a.at_, .int .u64 a.ver, .int .u64 a.word, .int .i64 a.b.k, .int .i64 a.b.lv, .string a.b.lo, .string a.b.hi, .bool a.b.la, .int .i64 a.b.nx, .slice a.b.p1 a.b.n1 a.b.c1, .slice a.b.p2 a.b.n2 a.b.c2, .slice a.b.p3 a.b.n3 a.b.c3, .int .i64 a.b.th, .int .i64 a.b.ac, .string a.b.ak, .int .u64 a.b.av, .slice a.b.p4 a.b.n4 a.b.c4, .slice a.b.p5 a.b.n5 a.b.c5, .slice a.b.p6 a.b.n6 a.b.c6, .slice a.b.p7 a.b.n7 a.b.c7, .int .i64 a.o.k, .string a.o.key, .string a.o.to, .int .u64 a.o.v, .int .i64 a.o.lim] #[.int .i64 a.k, .int .i64 a.at_, .int .u64 a.ver, .int .u64 a.word, .int .i64 a.b.k, .int .i64 a.b.lv, .string a.b.lo, .string a.b.hi, .bool a.b.la, .int .i64 a.b.nx, .slice a.b.p1 a.b.n1 a.b.c1, .slice a.b.p2 a.b.n2 a.b.c2, .slice a.b.p3 a.b.n3 a.b.c3, .int .i64 a.b.th, .int .i64 a.b.ac, .string a.b.ak, .int .u64 a.b.av, .slice a.b.p4 a.b.n4 a.b.c4, .slice a.b.p5 a.b.n5 a.b.c5, .slice a.b.p6 a.b.n6 a.b.c6, .slice a.b.p7 a.b.n7 a.b.c7, .int .i64 a.o.k, .string a.o.key, .string a.o.to, .int .u64 a.o.v, .int .i64 a.o.lim]
  have HX := Lib.hid (show Blk (w.alloc (.cells #[.int .i64 a.k, .int .i64 a.at_, .int .u64 a.ver, .int .u64 a.word, .int .i64 a.b.k, .int .i64 a.b.lv, .string a.b.lo, .string a.b.hi, .bool a.b.la, .int .i64 a.b.nx, .slice a.b.p1 a.b.n1 a.b.c1, .slice a.b.p2 a.b.n2 a.b.c2, .slice a.b.p3 a.b.n3 a.b.c3, .int .i64 a.b.th, .int .i64 a.b.ac, .string a.b.ak, .int .u64 a.b.av, .slice a.b.p4 a.b.n4 a.b.c4, .slice a.b.p5 a.b.n5 a.b.c5, .slice a.b.p6 a.b.n6 a.b.c6, .slice a.b.p7 a.b.n7 a.b.c7, .int .i64 a.o.k, .string a.o.key, .string a.o.to, .int .u64 a.o.v, .int .i64 a.o.lim] 48)) w.heap.size 48 #[.int .i64 a.k, .int .i64 a.at_, .int .u64 a.ver, .int .u64 a.word, .int .i64 a.b.k, .int .i64 a.b.lv, .string a.b.lo, .string a.b.hi, .bool a.b.la, .int .i64 a.b.nx, .slice a.b.p1 a.b.n1 a.b.c1, .slice a.b.p2 a.b.n2 a.b.c2, .slice a.b.p3 a.b.n3 a.b.c3, .int .i64 a.b.th, .int .i64 a.b.ac, .string a.b.ak, .int .u64 a.b.av, .slice a.b.p4 a.b.n4 a.b.c4, .slice a.b.p5 a.b.n5 a.b.c5, .slice a.b.p6 a.b.n6 a.b.c6, .slice a.b.p7 a.b.n7 a.b.c7, .int .i64 a.o.k, .string a.o.key, .string a.o.to, .int .u64 a.o.v, .int .i64 a.o.lim] from Blk.new w _ _)
  obtain ⟨W0, hW0⟩ : ∃ W, W = (w.alloc (.cells #[.int .i64 a.k, .int .i64 a.at_, .int .u64 a.ver, .int .u64 a.word, .int .i64 a.b.k, .int .i64 a.b.lv, .string a.b.lo, .string a.b.hi, .bool a.b.la, .int .i64 a.b.nx, .slice a.b.p1 a.b.n1 a.b.c1, .slice a.b.p2 a.b.n2 a.b.c2, .slice a.b.p3 a.b.n3 a.b.c3, .int .i64 a.b.th, .int .i64 a.b.ac, .string a.b.ak, .int .u64 a.b.av, .slice a.b.p4 a.b.n4 a.b.c4, .slice a.b.p5 a.b.n5 a.b.c5, .slice a.b.p6 a.b.n6 a.b.c6, .slice a.b.p7 a.b.n7 a.b.c7, .int .i64 a.o.k, .string a.o.key, .string a.o.to, .int .u64 a.o.v, .int .i64 a.o.lim] 48)).alloc (.cells #[.int .i64 a.k, .int .i64 a.at_, .int .u64 a.ver, .int .u64 a.word, .int .i64 a.b.k, .int .i64 a.b.lv, .string a.b.lo, .string a.b.hi, .bool a.b.la, .int .i64 a.b.nx, .slice a.b.p1 a.b.n1 a.b.c1, .slice a.b.p2 a.b.n2 a.b.c2, .slice a.b.p3 a.b.n3 a.b.c3, .int .i64 a.b.th, .int .i64 a.b.ac, .string a.b.ak, .int .u64 a.b.av, .slice a.b.p4 a.b.n4 a.b.c4, .slice a.b.p5 a.b.n5 a.b.c5, .slice a.b.p6 a.b.n6 a.b.c6, .slice a.b.p7 a.b.n7 a.b.c7, .int .i64 a.o.k, .string a.o.key, .string a.o.to, .int .u64 a.o.v, .int .i64 a.o.lim] 48) := ⟨_, rfl⟩
  rw [← hW0] at q1 q2 q3
  have HL := Lib.hid (light26 (some ⟨w.heap.size + 1, 0, none⟩) 1 1 [a] W0 ⟨rfl, ⟨Nat.le_refl _, by decide⟩, fun _ => ⟨_, _, rfl, fun j hj => by
    have : j = 0 := by simpa using hj
    subst this
    exact range_of (vs := a.cells) q2⟩, fun x hx => by
    have : x = a := by simpa using hx
    subst this
    exact ⟨⟨ks, hk.keep q3⟩, h2, h3, h4, h7⟩⟩)
  have HX1 := Lib.hid q1
  have HX3 := Lib.hid q3
  have HW0 := Lib.hid hW0
  clear q1 q2 q3 hW0 hk h2 h3 h4 h7
  go_enter Try.func6, Try.ntmps6
  go_wp2_with (refine wpList_load_blk rfl 48 _ rfl w.heap.size 48 [.int .i64 a.k, .int .i64 a.at_, .int .u64 a.ver, .int .u64 a.word, .int .i64 a.b.k, .int .i64 a.b.lv, .string a.b.lo, .string a.b.hi, .bool a.b.la, .int .i64 a.b.nx, .slice a.b.p1 a.b.n1 a.b.c1, .slice a.b.p2 a.b.n2 a.b.c2, .slice a.b.p3 a.b.n3 a.b.c3, .int .i64 a.b.th, .int .i64 a.b.ac, .string a.b.ak, .int .u64 a.b.av, .slice a.b.p4 a.b.n4 a.b.c4, .slice a.b.p5 a.b.n5 a.b.c5, .slice a.b.p6 a.b.n6 a.b.c6, .slice a.b.p7 a.b.n7 a.b.c7, .int .i64 a.o.k, .string a.o.key, .string a.o.to, .int .u64 a.o.v, .int .i64 a.o.lim] _ rfl HX.out Try.underlying48 rfl szAccess ?_)
  rw [← HW0.out]
  refine HL.out.mono ?_
  rintro e w1 ⟨b, rfl, hb1, _⟩
  have HB1 := Lib.hid (HX3.out.trans (hb1.mono HX3.out.size))
  have HX2 := Lib.hid (HX1.out.below hb1)
  have HLS := Lib.hid (lives26)
  clear hb1 HL HX1 HX3 HW0 HX
  cases b with
  | false =>
    go_wp2_with fail
    refine (HLS.out w1).mono ?_
    rintro e w2 ⟨rfl, hb2⟩
    have HB2 := Lib.hid (HB1.out.trans (hb2.mono HB1.out.size))
    clear hb2
    go_wp2
    go_ret
    exact ⟨rfl, HB2.out⟩
  | true =>
    have HP := Lib.hid (Blk.new w1 75 #[.pointer none])
    have hal := (one_alloc w1 (.cells #[.pointer none] 75)).2
    have HX3 := Lib.hid (HX2.out.below hal)
    have HB3 := Lib.hid (HB1.out.trans (hal.mono HB1.out.size))
    have HDO := Lib.hid (mDo_none (.pointer (some ⟨w1.heap.size, 0, none⟩)) a hw _ (all_none _ _ HP.out))
    have HSZ := Lib.hid (show w.heap.size ≤ w1.heap.size from HB1.out.size)
    clear hal
    go_wp2_with (refine wpList_load_blk rfl 48 _ rfl w.heap.size 48 [.int .i64 a.k, .int .i64 a.at_, .int .u64 a.ver, .int .u64 a.word, .int .i64 a.b.k, .int .i64 a.b.lv, .string a.b.lo, .string a.b.hi, .bool a.b.la, .int .i64 a.b.nx, .slice a.b.p1 a.b.n1 a.b.c1, .slice a.b.p2 a.b.n2 a.b.c2, .slice a.b.p3 a.b.n3 a.b.c3, .int .i64 a.b.th, .int .i64 a.b.ac, .string a.b.ak, .int .u64 a.b.av, .slice a.b.p4 a.b.n4 a.b.c4, .slice a.b.p5 a.b.n5 a.b.c5, .slice a.b.p6 a.b.n6 a.b.c6, .slice a.b.p7 a.b.n7 a.b.c7, .int .i64 a.o.k, .string a.o.key, .string a.o.to, .int .u64 a.o.v, .int .i64 a.o.lim] _ rfl HX3.out Try.underlying48 rfl szAccess ?_)
    refine HDO.out.mono ?_
    rintro e w2 ⟨rfl, hb2⟩
    have HP4 := Lib.hid ((HP.out.below hb2).below (one_alloc w2 (.cells #[.bool false, .int .u64 0, .int .u64 0, .int .i64 0, .int .i64 0, .string ⟨#[]⟩, .string ⟨#[]⟩, .bool false, .int .i64 0, .slice none 0 0, .slice none 0 0, .slice none 0 0, .int .i64 0, .int .i64 0, .string ⟨#[]⟩, .int .u64 0, .slice none 0 0, .slice none 0 0, .slice none 0 0, .slice none 0 0, .int .i64 0, .string ⟨#[]⟩, .string ⟨#[]⟩, .int .u64 0, .int .i64 0] 45)).2)
    have HX4 := Lib.hid ((HX3.out.below hb2).below (one_alloc w2 (.cells #[.bool false, .int .u64 0, .int .u64 0, .int .i64 0, .int .i64 0, .string ⟨#[]⟩, .string ⟨#[]⟩, .bool false, .int .i64 0, .slice none 0 0, .slice none 0 0, .slice none 0 0, .int .i64 0, .int .i64 0, .string ⟨#[]⟩, .int .u64 0, .slice none 0 0, .slice none 0 0, .slice none 0 0, .slice none 0 0, .int .i64 0, .string ⟨#[]⟩, .string ⟨#[]⟩, .int .u64 0, .int .i64 0] 45)).2)
    have hb4 := HB3.out.trans (hb2.mono HB3.out.size)
    have HB4 := Lib.hid (hb4.trans ((one_alloc w2 (.cells #[.bool false, .int .u64 0, .int .u64 0, .int .i64 0, .int .i64 0, .string ⟨#[]⟩, .string ⟨#[]⟩, .bool false, .int .i64 0, .slice none 0 0, .slice none 0 0, .slice none 0 0, .int .i64 0, .int .i64 0, .string ⟨#[]⟩, .int .u64 0, .slice none 0 0, .slice none 0 0, .slice none 0 0, .slice none 0 0, .int .i64 0, .string ⟨#[]⟩, .string ⟨#[]⟩, .int .u64 0, .int .i64 0] 45)).2.mono hb4.size))
    have HR4 := Lib.hid (Blk.new w2 45 #[.bool false, .int .u64 0, .int .u64 0, .int .i64 0, .int .i64 0, .string ⟨#[]⟩, .string ⟨#[]⟩, .bool false, .int .i64 0, .slice none 0 0, .slice none 0 0, .slice none 0 0, .int .i64 0, .int .i64 0, .string ⟨#[]⟩, .int .u64 0, .slice none 0 0, .slice none 0 0, .slice none 0 0, .slice none 0 0, .int .i64 0, .string ⟨#[]⟩, .string ⟨#[]⟩, .int .u64 0, .int .i64 0])
    have HL4 := Lib.hid (show w.heap.size < w2.heap.size ∧ w1.heap.size < w2.heap.size from ⟨(HX3.out.below hb2).lt, (HP.out.below hb2).lt⟩)
    clear hb2 hb4 HDO HP HX3 HB3 HX2
    go_upto_region 5 with (refine wpList_store_blk rfl 45 _ _ rfl w2.heap.size 45 _ [.bool false, .int .u64 0, .int .u64 0, .int .i64 0, .int .i64 0, .string ⟨#[]⟩, .string ⟨#[]⟩, .bool false, .int .i64 0, .slice none 0 0, .slice none 0 0, .slice none 0 0, .int .i64 0, .int .i64 0, .string ⟨#[]⟩, .int .u64 0, .slice none 0 0, .slice none 0 0, .slice none 0 0, .slice none 0 0, .int .i64 0, .string ⟨#[]⟩, .string ⟨#[]⟩, .int .u64 0, .int .i64 0] rfl rfl HR4.out rfl szReply (by simp [Value.oneCell']) ?_; intro W hR1 hR2)
    have HP5 := Lib.hid (HP4.out.keep hR2.out (by have := HL4.out; omega))
    have HX5 := Lib.hid (HX4.out.keep hR2.out (by have := HL4.out; omega))
    have HB5 := Lib.hid (HB4.out.trans (keep_to hR2.out (by have := HL4.out; omega) HB4.out.size))
    have HR5 := Lib.hid hR1.out
    obtain ⟨wA, rfl⟩ : ∃ wA : World, wA = W := ⟨_, rfl⟩
    obtain ⟨fz, d0, d1, d2, d3, d4, d5, d6, d7, d8, d9, d10, d11, d12, d13, d14, d15, d16, d17, d18, d19, d20, d21, d22, d23, d24, d25⟩ := cells26 HX5.out
    clear hR1 hR2 HP4 HX4 HB4 HR4 fz d0 d1 d2 d4 d5 d6 d7 d8 d9 d10 d11 d12 d13 d14 d15 d16 d17 d18 d19 d20 d21 d22 d23 d24 d25
    have HBL := Lib.hid (mBlock_none (.pointer (some ⟨w1.heap.size, 0, none⟩)) a.word hw wA (all_none _ _ HP5.out))
    go_wp2_with fail
    refine HBL.out.mono ?_
    rintro e w3 ⟨rfl, hb3⟩
    have HZ6 := Lib.hid (Blk.new w3 41 #[.int .i64 0, .int .i64 0, .string ⟨#[]⟩, .string ⟨#[]⟩, .bool false, .int .i64 0, .slice none 0 0, .slice none 0 0, .slice none 0 0, .int .i64 0, .int .i64 0, .string ⟨#[]⟩, .int .u64 0, .slice none 0 0, .slice none 0 0, .slice none 0 0, .slice none 0 0])
    have ha := (one_alloc w3 (.cells #[.int .i64 0, .int .i64 0, .string ⟨#[]⟩, .string ⟨#[]⟩, .bool false, .int .i64 0, .slice none 0 0, .slice none 0 0, .slice none 0 0, .int .i64 0, .int .i64 0, .string ⟨#[]⟩, .int .u64 0, .slice none 0 0, .slice none 0 0, .slice none 0 0, .slice none 0 0] 41)).2
    have HP6 := Lib.hid ((HP5.out.below hb3).below ha)
    have HX6 := Lib.hid ((HX5.out.below hb3).below ha)
    have HR6 := Lib.hid ((HR5.out.below hb3).below ha)
    have hb6 := HB5.out.trans (hb3.mono HB5.out.size)
    have HB6 := Lib.hid (hb6.trans (ha.mono hb6.size))
    have HL6 := Lib.hid (show w.heap.size < w3.heap.size ∧ w1.heap.size < w3.heap.size ∧ w2.heap.size < w3.heap.size from ⟨(HX5.out.below hb3).lt, (HP5.out.below hb3).lt, (HR5.out.below hb3).lt⟩)
    clear d3 hb3 ha hb6 HBL HP5 HX5 HR5 HB5
    go_upto_region 6 with (refine wpList_store_blk rfl 41 _ _ rfl w3.heap.size 41 _ [.int .i64 0, .int .i64 0, .string ⟨#[]⟩, .string ⟨#[]⟩, .bool false, .int .i64 0, .slice none 0 0, .slice none 0 0, .slice none 0 0, .int .i64 0, .int .i64 0, .string ⟨#[]⟩, .int .u64 0, .slice none 0 0, .slice none 0 0, .slice none 0 0, .slice none 0 0] rfl rfl HZ6.out rfl szBlock (by simp [Value.oneCell']) ?_; intro W hR1 hR2)
    have HP7 := Lib.hid (HP6.out.keep hR2.out (by have := HL6.out; omega))
    have HX7 := Lib.hid (HX6.out.keep hR2.out (by have := HL6.out; omega))
    have HR7 := Lib.hid (HR6.out.keep hR2.out (by have := HL6.out; omega))
    have HB7 := Lib.hid (HB6.out.trans (keep_to hR2.out (by have := HL6.out; omega) HB6.out.size))
    obtain ⟨wB, rfl⟩ : ∃ wB : World, wB = W := ⟨_, rfl⟩
    obtain ⟨fz, d0, d1, d2, d3, d4, d5, d6, d7, d8, d9, d10, d11, d12, d13, d14, d15, d16, d17, d18, d19, d20, d21, d22, d23, d24, d25⟩ := cells26 HX7.out
    obtain ⟨fr, r0, _⟩ := cells25 HR7.out
    clear hR1 hR2 HP6 HX6 HB6 HR6 HZ6 fz fr d0 d2 d3 d4 d5 d6 d7 d8 d9 d10 d11 d12 d13 d14 d15 d16 d17 d18 d19 d20 d21 d22 d23 d24 d25
    have HM := Lib.hid (all_none wB _ HP7.out)
    have HLD := Lib.hid (mLoad_any (.pointer (some ⟨w1.heap.size, 0, none⟩)) _ _ _ 0 0 a.at_ 0 0 false wB HM.out (fun V _ => (load_nil a.at_ V).mono (by
      rintro e w' ⟨rfl, rfl⟩
      exact ⟨rfl, Below.refl _ _⟩)))
    go_wp2_with fail
    refine HLD.out.mono ?_
    rintro e w4 ⟨rfl, hb4⟩
    have r1 : w4.cell? ⟨w2.heap.size, 0, none⟩ = some (.bool false) := ((HR7.out.below hb4).cell 0).trans rfl
    have HV4 := Lib.hid hb4
    clear hb4 HLD r0 d1
    go_wp2_with fail
    refine (mLen_any _ _ _ _ 0 0 0 w4 (HM.out.below HV4.out) (fun V _ => cLen_nil V)).mono ?_
    rintro e w5 ⟨rfl, hb5⟩
    have HV5 := Lib.hid (HV4.out.trans (hb5.mono HV4.out.size))
    clear hb5 HV4
    go_wp2_with fail
    refine (mArena_any _ _ _ _ 0 0 w5 (HM.out.below HV5.out)).mono ?_
    rintro e w6 ⟨rfl, hb6⟩
    have HV6 := Lib.hid (HV5.out.trans (hb6.mono HV5.out.size))
    clear hb6 HV5
    go_wp2_with fail
    refine (mThreads_any _ _ _ _ 0 0 w6 (HM.out.below HV6.out)).mono ?_
    rintro e w7 ⟨rfl, hb7⟩
    have HV7 := Lib.hid (HV6.out.trans (hb7.mono HV6.out.size))
    clear hb7 HV6
    go_wp2_with fail
    refine (mGate_any _ _ _ _ 0 0 w7 (HM.out.below HV7.out)).mono ?_
    rintro e w8 ⟨rfl, hb8⟩
    rw [show atM 0 0 6 0 = -1 from by decide]
    have HV8 := Lib.hid (HV7.out.trans (hb8.mono HV7.out.size))
    clear hb8 HV7
    go_wp2_with fail
    refine (mHazard_any _ _ _ _ 0 0 0 0 (by decide) w8 (HM.out.below HV8.out)).mono ?_
    rintro e w9 ⟨rfl, hb9⟩
    rw [show hazM 0 0 0 0 = -1 from by decide]
    have HV9 := Lib.hid (HV8.out.trans (hb9.mono HV8.out.size))
    clear hb9 HV8
    go_wp2_with fail
    refine (mUse_any _ _ _ _ 0 0 0 w9 (HM.out.below HV9.out)).mono ?_
    rintro e w10 ⟨rfl, hb10⟩
    rw [show atM 0 0 1 0 = -1 from by decide]
    have HV10 := Lib.hid (HV9.out.trans (hb10.mono HV9.out.size))
    clear hb10 HV9
    go_wp2_with fail
    refine (HLS.out w10).mono ?_
    rintro e w11 ⟨rfl, hb11⟩
    have HV11 := Lib.hid (HV10.out.trans (hb11.mono HV10.out.size))
    clear hb11 HV10
    go_wp2
    go_ret
    exact ⟨rfl, HB7.out.trans (HV11.out.mono HB7.out.size)⟩
end Go.Proofs.Ytkdjcikilabehaa
