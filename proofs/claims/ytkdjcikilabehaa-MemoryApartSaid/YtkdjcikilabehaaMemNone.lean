/- A memory that is none: do, place, block. Condition: words are words. -/
import Derived.Test.YtkdjcikilabehaaMemVal
import Derived.Deep.RegionHeldLaw
import Derived.Deep.DeepCutAuto
import Derived.Deep.RegionWith
import Derived.Test.YtkdjcikilabehaaLater
namespace Go.Proofs.Ytkdjcikilabehaa
open Go.RowKit
/-- What an access that fails tells. -/
def NoR (w w' : World) (e : Ending) : Prop := e = .returned (.agg #[.bool false, .int .u64 0, .int .u64 0, .int .i64 0, .int .i64 0, .string ⟨#[]⟩, .string ⟨#[]⟩, .bool false, .int .i64 0, .slice none 0 0, .slice none 0 0, .slice none 0 0, .int .i64 0, .int .i64 0, .string ⟨#[]⟩, .int .u64 0, .slice none 0 0, .slice none 0 0, .slice none 0 0, .slice none 0 0, .int .i64 0, .string ⟨#[]⟩, .string ⟨#[]⟩, .int .u64 0, .int .i64 0]) ∧ Below w.heap.size w w'
theorem load_nil (i : Int) (w : World) : Calls Try.prog 36 #[.pointer none, .int .i64 i] w fun e w' => e = .returned (.tuple #[.int .u64 0, .int .u64 0, .bool false]) ∧ w = w' := load_out _ 0 i w (cLen_nil w) (by omega)
theorem openG_lt (w : Nat) (h : w < 18446744073709551616) : openG w < 18446744073709551616 := by
  unfold openG; split <;> omega
theorem use1_ne (g : Nat) : useW 1 g ≠ 0 := by
  unfold useW
  split
  · have : (1 : Int).toNat = 1 := rfl
    omega
  · decide
set_option maxHeartbeats 2000000 in
theorem place_none (o word : Nat) (bs rs : Value) (hw : word < 18446744073709551616) (w : World) (h : MBox w o 0 0 (.pointer none) bs rs) :
    Calls Try.prog 70 #[.pointer (some ⟨o, 0, none⟩), .int .u64 word] w fun e w' => e = .returned (.tuple #[.int .i64 (-1), .bool false]) ∧ Below w.heap.size w w' := by
  have HO := Lib.hid (open_any word hw w)
  have HM := Lib.hid h
  clear h
  go_enter Try.func70, Try.ntmps70
  go_wp2_with fail
  refine HO.out.mono ?_
  rintro e w1 ⟨rfl, hb⟩
  have HM1 := Lib.hid (HM.out.below hb)
  have hG := openG_lt word hw
  have HB := Lib.hid hb
  clear hb HO
  generalize openP word = p at *
  generalize openG word = g at *
  generalize openOk word = ok at *
  have c0 : ∀ p : Later w1, p.w.cell? ⟨o, 0, none⟩ = some (.pointer none) := fun p => (HM1.out.below p.h).c0
  have HAT : Hid (∀ p_ : Later w1, Calls Try.prog 38 #[.pointer (some ⟨o, 0, none⟩), .int .i64 1, .int .i64 p] p_.w fun e w' => e = .returned (.int .i64 (-1)) ∧ Below p_.w.heap.size p_.w w') := Lib.hid (fun q => (at_any o 0 0 1 p (.pointer none) bs rs (by decide) q.w (HM1.out.below q.h)).mono (by
    rintro e w' ⟨rfl, rfl⟩
    exact ⟨by unfold atM manyM; simp; omega, Below.refl _ _⟩))
  have HLD : Hid (∀ p_ : Later w1, Calls Try.prog 36 #[.pointer none, .int .i64 (-1)] p_.w fun e w' => e = .returned (.tuple #[.int .u64 0, .int .u64 0, .bool false]) ∧ Below p_.w.heap.size p_.w w') := Lib.hid (fun q => (load_nil (-1) q.w).mono (by
    rintro e w' ⟨rfl, rfl⟩
    exact ⟨rfl, Below.refl _ _⟩))
  go_wp2_with fail
  refine wp_region_later (by kernel_rfl) (by kernel_rfl) ?_
  repeat (quiet_step ((first | (go_at_call 38; with_reducible exact later_of (HAT.out _)) | (go_at_call 36; with_reducible exact later_of (HLD.out _)))))
  refine wpQuiet_nil ?_
  intro _ hw'
  obtain ⟨⟨wq, hwq⟩, hw''⟩ := hw'
  subst hw''
  have HBQ := Lib.hid (HB.out.trans (hwq.mono HB.out.size))
  have HU := Lib.hid (fun W => use_any 1 g (by decide) hG W)
  have hne : ((0 : Int) != (useW 1 g : Nat)) = true := by
    have := use1_ne g
    rw [bne_iff_ne]; omega
  generalize useW 1 g = u at *
  clear hwq HM HAT HLD c0 HM1 hG
  cases ok with
  | false =>
    go_wp2
    go_ret2
    exact ⟨rfl, HBQ.out⟩
  | true =>
    go_wp2_with fail
    refine (HU.out _).mono ?_
    rintro e w2 ⟨rfl, hb2⟩
    have HB2 := Lib.hid (HBQ.out.trans (hb2.mono HBQ.out.size))
    clear hb2
    go_wp2
    go_ret2
    exact ⟨rfl, HB2.out⟩
set_option maxHeartbeats 2000000 in
theorem block_none (o word : Nat) (bs rs : Value) (hw : word < 18446744073709551616) (w : World) (h : MBox w o 0 0 (.pointer none) bs rs) :
    Calls Try.prog 47 #[.pointer (some ⟨o, 0, none⟩), .int .u64 word] w fun e w' => e = .returned (.tuple #[Bl.zero.val, .bool false]) ∧ Below w.heap.size w w' := by
  have HA := Lib.hid (one_alloc w (.cells #[.int .i64 0, .int .i64 0, .string ⟨#[]⟩, .string ⟨#[]⟩, .bool false, .int .i64 0, .slice none 0 0, .slice none 0 0, .slice none 0 0, .int .i64 0, .int .i64 0, .string ⟨#[]⟩, .int .u64 0, .slice none 0 0, .slice none 0 0, .slice none 0 0, .slice none 0 0] 41)).2
  have HBX := Lib.hid (Blk.new w 41 #[.int .i64 0, .int .i64 0, .string ⟨#[]⟩, .string ⟨#[]⟩, .bool false, .int .i64 0, .slice none 0 0, .slice none 0 0, .slice none 0 0, .int .i64 0, .int .i64 0, .string ⟨#[]⟩, .int .u64 0, .slice none 0 0, .slice none 0 0, .slice none 0 0, .slice none 0 0])
  have HP := Lib.hid (fun W (hb : Below w.heap.size w W) => place_none o word bs rs hw W (h.below hb))
  clear h
  go_enter Try.func47, Try.ntmps47
  go_wp2_with fail
  refine (HP.out _ HA.out).mono ?_
  rintro e w2 ⟨rfl, hb2⟩
  have HK := Lib.hid (HBX.out.below hb2)
  have HB2 := Lib.hid (HA.out.trans (hb2.mono HA.out.size))
  clear hb2 HA HP
  go_wp2_with (refine wpList_store_blk rfl 41 _ _ rfl w.heap.size 41 _ [.int .i64 0, .int .i64 0, .string ⟨#[]⟩, .string ⟨#[]⟩, .bool false, .int .i64 0, .slice none 0 0, .slice none 0 0, .slice none 0 0, .int .i64 0, .int .i64 0, .string ⟨#[]⟩, .int .u64 0, .slice none 0 0, .slice none 0 0, .slice none 0 0, .slice none 0 0] rfl rfl HK.out rfl szBlock (by simp [Value.oneCell']) ?_; intro W hW1 hW2)
  refine bodyPost_ret (ret_block_tmp rfl rfl hW1.out rfl) rfl ?_
  exact ⟨rfl, HB2.out.trans (hW2.out.below HB2.out.size (fun k e => by rw [e]; exact Nat.le_refl _))⟩
theorem keep_to {w W : World} {g : Nat} (hk : Keep (fun k => k = g) w W) {B : Nat} (hB : B ≤ g) (hs : B ≤ w.heap.size) : Below B w W := hk.below hs (fun k e => by rw [e]; exact hB)
set_option maxHeartbeats 2000000 in
theorem written_no (o A T : Nat) (i : Int) (cp bs rs : Value) (w : World) (h : MBox w o A T cp bs rs) :
    Calls Try.prog 56 #[.pointer (some ⟨o, 0, none⟩), .int .i64 i, .bool false] w fun e w' => NoR w w' e := by
  have HA := Lib.hid (one_alloc w (.cells #[.bool false, .int .u64 0, .int .u64 0, .int .i64 0, .int .i64 0, .string ⟨#[]⟩, .string ⟨#[]⟩, .bool false, .int .i64 0, .slice none 0 0, .slice none 0 0, .slice none 0 0, .int .i64 0, .int .i64 0, .string ⟨#[]⟩, .int .u64 0, .slice none 0 0, .slice none 0 0, .slice none 0 0, .slice none 0 0, .int .i64 0, .string ⟨#[]⟩, .string ⟨#[]⟩, .int .u64 0, .int .i64 0] 45)).2
  have HX := Lib.hid (Blk.new w 45 #[.bool false, .int .u64 0, .int .u64 0, .int .i64 0, .int .i64 0, .string ⟨#[]⟩, .string ⟨#[]⟩, .bool false, .int .i64 0, .slice none 0 0, .slice none 0 0, .slice none 0 0, .int .i64 0, .int .i64 0, .string ⟨#[]⟩, .int .u64 0, .slice none 0 0, .slice none 0 0, .slice none 0 0, .slice none 0 0, .int .i64 0, .string ⟨#[]⟩, .string ⟨#[]⟩, .int .u64 0, .int .i64 0])
  have HG := Lib.hid (fun W (hb : Below w.heap.size w W) => begin_any o A T 1 cp bs rs (by decide) W (h.below hb))
  clear h
  go_enter Try.func56, Try.ntmps56
  go_wp2_with fail
  refine (HG.out _ HA.out).mono ?_
  rintro e w2 ⟨rfl, hw⟩
  subst hw
  generalize begM A T 1 = x at *
  go_wp2_with (refine wpList_store_blk rfl 45 _ _ rfl w.heap.size 45 _ [.bool false, .int .u64 0, .int .u64 0, .int .i64 0, .int .i64 0, .string ⟨#[]⟩, .string ⟨#[]⟩, .bool false, .int .i64 0, .slice none 0 0, .slice none 0 0, .slice none 0 0, .int .i64 0, .int .i64 0, .string ⟨#[]⟩, .int .u64 0, .slice none 0 0, .slice none 0 0, .slice none 0 0, .slice none 0 0, .int .i64 0, .string ⟨#[]⟩, .string ⟨#[]⟩, .int .u64 0, .int .i64 0] rfl rfl HX.out rfl szReply (by simp [Value.oneCell']) ?_; intro W hW1 hW2)
  refine bodyPost_ret (ret_reply rfl rfl hW1.out rfl) rfl ?_
  exact ⟨rfl, HA.out.trans (keep_to hW2.out (Nat.le_refl _) HA.out.size)⟩
set_option maxHeartbeats 2000000 in
theorem put_no (o word : Nat) (b : Bl) (v : Value) (w : World)
    (hp : ∀ W, Below w.heap.size w W → Calls Try.prog 70 #[.pointer (some ⟨o, 0, none⟩), .int .u64 word] W fun e w' => e = .returned (.tuple #[.int .i64 (-1), .bool false]) ∧ Below W.heap.size W w') (hv : v = .agg #[.int .i64 b.k, .int .i64 b.lv, .string b.lo, .string b.hi, .bool b.la, .int .i64 b.nx, .slice b.p1 b.n1 b.c1, .slice b.p2 b.n2 b.c2, .slice b.p3 b.n3 b.c3, .int .i64 b.th, .int .i64 b.ac, .string b.ak, .int .u64 b.av, .slice b.p4 b.n4 b.c4, .slice b.p5 b.n5 b.c5, .slice b.p6 b.n6 b.c6, .slice b.p7 b.n7 b.c7]) :
    Calls Try.prog 59 #[.pointer (some ⟨o, 0, none⟩), .int .u64 word, v] w fun e w' => NoR w w' e := by
  subst hv
  obtain ⟨hx1, hx2, hx3⟩ := two_blk w 41 45 #[.int .i64 b.k, .int .i64 b.lv, .string b.lo, .string b.hi, .bool b.la, .int .i64 b.nx, .slice b.p1 b.n1 b.c1, .slice b.p2 b.n2 b.c2, .slice b.p3 b.n3 b.c3, .int .i64 b.th, .int .i64 b.ac, .string b.ak, .int .u64 b.av, .slice b.p4 b.n4 b.c4, .slice b.p5 b.n5 b.c5, .slice b.p6 b.n6 b.c6, .slice b.p7 b.n7 b.c7] #[.bool false, .int .u64 0, .int .u64 0, .int .i64 0, .int .i64 0, .string ⟨#[]⟩, .string ⟨#[]⟩, .bool false, .int .i64 0, .slice none 0 0, .slice none 0 0, .slice none 0 0, .int .i64 0, .int .i64 0, .string ⟨#[]⟩, .int .u64 0, .slice none 0 0, .slice none 0 0, .slice none 0 0, .slice none 0 0, .int .i64 0, .string ⟨#[]⟩, .string ⟨#[]⟩, .int .u64 0, .int .i64 0]
  have HX1 := Lib.hid hx1
  have HX2 := Lib.hid hx2
  have HX3 := Lib.hid hx3
  clear hx1 hx2 hx3
  have HP := Lib.hid hp
  clear hp
  go_enter Try.func59, Try.ntmps59
  go_wp2_with fail
  refine (HP.out _ HX3.out).mono ?_
  rintro e w2 ⟨rfl, hb2⟩
  have HX := Lib.hid (HX2.out.below (w' := w2) hb2)
  have HB2 := Lib.hid (HX3.out.trans (hb2.mono HX3.out.size))
  clear hb2 HX1 HX2
  go_wp2_with (refine wpList_store_blk rfl 45 _ _ rfl (w.heap.size + 1) 45 _ [.bool false, .int .u64 0, .int .u64 0, .int .i64 0, .int .i64 0, .string ⟨#[]⟩, .string ⟨#[]⟩, .bool false, .int .i64 0, .slice none 0 0, .slice none 0 0, .slice none 0 0, .int .i64 0, .int .i64 0, .string ⟨#[]⟩, .int .u64 0, .slice none 0 0, .slice none 0 0, .slice none 0 0, .slice none 0 0, .int .i64 0, .string ⟨#[]⟩, .string ⟨#[]⟩, .int .u64 0, .int .i64 0] rfl rfl HX.out rfl szReply (by simp [Value.oneCell']) ?_; intro W hW1 hW2)
  refine bodyPost_ret (ret_reply rfl rfl hW1.out rfl) rfl ?_
  exact ⟨rfl, HB2.out.trans (keep_to hW2.out (Nat.le_succ _) HB2.out.size)⟩
set_option maxHeartbeats 2000000 in
theorem read_no (o A T : Nat) (t : Int) (cp bs rs : Value) (w : World) (h : MBox w o A T cp bs rs) (ht : thrB T t = false) :
    Calls Try.prog 60 #[.pointer (some ⟨o, 0, none⟩), .int .i64 t] w fun e w' => NoR w w' e := by
  have HX3 := Lib.hid (one_alloc w (.cells #[.bool false, .int .u64 0, .int .u64 0, .int .i64 0, .int .i64 0, .string ⟨#[]⟩, .string ⟨#[]⟩, .bool false, .int .i64 0, .slice none 0 0, .slice none 0 0, .slice none 0 0, .int .i64 0, .int .i64 0, .string ⟨#[]⟩, .int .u64 0, .slice none 0 0, .slice none 0 0, .slice none 0 0, .slice none 0 0, .int .i64 0, .string ⟨#[]⟩, .string ⟨#[]⟩, .int .u64 0, .int .i64 0] 45)).2
  have HX2 := Lib.hid (Blk.new w 45 #[.bool false, .int .u64 0, .int .u64 0, .int .i64 0, .int .i64 0, .string ⟨#[]⟩, .string ⟨#[]⟩, .bool false, .int .i64 0, .slice none 0 0, .slice none 0 0, .slice none 0 0, .int .i64 0, .int .i64 0, .string ⟨#[]⟩, .int .u64 0, .slice none 0 0, .slice none 0 0, .slice none 0 0, .slice none 0 0, .int .i64 0, .string ⟨#[]⟩, .string ⟨#[]⟩, .int .u64 0, .int .i64 0])
  have HI := Lib.hid (fun W (hb : Below w.heap.size w W) => isThread_any o A T t cp bs rs W (h.below hb))
  rw [ht] at HI
  clear h
  go_enter Try.func60, Try.ntmps60
  go_wp2_with fail
  refine (HI.out _ HX3.out).mono ?_
  rintro e w2 ⟨rfl, hw⟩
  subst hw
  go_wp2_with (refine wpList_store_blk rfl 45 _ _ rfl w.heap.size 45 _ [.bool false, .int .u64 0, .int .u64 0, .int .i64 0, .int .i64 0, .string ⟨#[]⟩, .string ⟨#[]⟩, .bool false, .int .i64 0, .slice none 0 0, .slice none 0 0, .slice none 0 0, .int .i64 0, .int .i64 0, .string ⟨#[]⟩, .int .u64 0, .slice none 0 0, .slice none 0 0, .slice none 0 0, .slice none 0 0, .int .i64 0, .string ⟨#[]⟩, .string ⟨#[]⟩, .int .u64 0, .int .i64 0] rfl rfl HX2.out rfl szReply (by simp [Value.oneCell']) ?_; intro W hW1 hW2)
  refine bodyPost_ret (ret_reply rfl rfl hW1.out rfl) rfl ?_
  exact ⟨rfl, HX3.out.trans (keep_to hW2.out (Nat.le_refl _) HX3.out.size)⟩
set_option maxHeartbeats 2000000 in
theorem write_no (o A T : Nat) (t : Int) (p : OpV) (v cp bs rs : Value) (w : World) (h : MBox w o A T cp bs rs) (ht : thrB T t = false) (hv : v = .agg #[.int .i64 p.k, .string p.key, .string p.to, .int .u64 p.v, .int .i64 p.lim]) :
    Calls Try.prog 61 #[.pointer (some ⟨o, 0, none⟩), .int .i64 t, v] w fun e w' => NoR w w' e := by
  subst hv
  obtain ⟨hx1, hx2, hx3⟩ := two_blk w 43 45 #[.int .i64 p.k, .string p.key, .string p.to, .int .u64 p.v, .int .i64 p.lim] #[.bool false, .int .u64 0, .int .u64 0, .int .i64 0, .int .i64 0, .string ⟨#[]⟩, .string ⟨#[]⟩, .bool false, .int .i64 0, .slice none 0 0, .slice none 0 0, .slice none 0 0, .int .i64 0, .int .i64 0, .string ⟨#[]⟩, .int .u64 0, .slice none 0 0, .slice none 0 0, .slice none 0 0, .slice none 0 0, .int .i64 0, .string ⟨#[]⟩, .string ⟨#[]⟩, .int .u64 0, .int .i64 0]
  have HX1 := Lib.hid hx1
  have HX2 := Lib.hid hx2
  have HX3 := Lib.hid hx3
  clear hx1 hx2 hx3
  have HI := Lib.hid (fun W (hb : Below w.heap.size w W) => isThread_any o A T t cp bs rs W (h.below hb))
  rw [ht] at HI
  clear h
  go_enter Try.func61, Try.ntmps61
  go_wp2_with fail
  refine (HI.out _ HX3.out).mono ?_
  rintro e w2 ⟨rfl, hw⟩
  subst hw
  go_wp2_with (refine wpList_store_blk rfl 45 _ _ rfl (w.heap.size + 1) 45 _ [.bool false, .int .u64 0, .int .u64 0, .int .i64 0, .int .i64 0, .string ⟨#[]⟩, .string ⟨#[]⟩, .bool false, .int .i64 0, .slice none 0 0, .slice none 0 0, .slice none 0 0, .int .i64 0, .int .i64 0, .string ⟨#[]⟩, .int .u64 0, .slice none 0 0, .slice none 0 0, .slice none 0 0, .slice none 0 0, .int .i64 0, .string ⟨#[]⟩, .string ⟨#[]⟩, .int .u64 0, .int .i64 0] rfl rfl HX2.out rfl szReply (by simp [Value.oneCell']) ?_; intro W hW1 hW2)
  refine bodyPost_ret (ret_reply rfl rfl hW1.out rfl) rfl ?_
  exact ⟨rfl, HX3.out.trans (keep_to hW2.out (Nat.le_succ _) HX3.out.size)⟩
end Go.Proofs.Ytkdjcikilabehaa
