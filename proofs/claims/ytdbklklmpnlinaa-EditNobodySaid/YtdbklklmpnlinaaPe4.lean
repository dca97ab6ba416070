/- The chapter's example (bowerlaw21.lives). No condition. An edit that is none, or of no view: At, Spare, Set, Clear, Changes, View. Condition: the node's rows fit. The law EditNobody, walked. Condition: the node's rows are there. -/
import Derived.Test.YtdbklklmpnlinaaPe3
import Derived.Test.YtdbklklmpnlinaaFindViews
import Derived.Test.YtdbklklmpnlinaaNodeLives
import Derived.Test.YtdbklklmpnlinaaPe1
import Derived.Test.YtdbklklmpnlinaaNodeClone2
namespace Go.Proofs.Ytdbklklmpnlinaa
open Go.RowKit Go.Maps

def eN21 : Nod := ⟨0, -1, ⟨#[]⟩, ⟨#[]⟩, true, [], [], []⟩
def eK21 : Kn := ⟨0, 1, 5, eN21⟩
def eX1 : Ch := ⟨0, -1, 1, 5, false, false, eN21⟩
def eX2 : Ch := ⟨0, 0, 0, 6, false, true, eN21⟩
theorem eK21_row {w W : World} {g : Nat} (h : BX W g 43 #[.int .i64 0, .int .u64 1, .int .u64 5, .int .i64 0, .string ⟨#[]⟩, .string ⟨#[]⟩, .bool true, .int .i64 (-1), .slice none 0 0, .slice none 0 0, .slice none 0 0]) : KsAt (PV w) W (.slice (some ⟨g, 0, none⟩) 1 1) [eK21] := by
  refine ⟨some ⟨g, 0, none⟩, 1, rfl, Nat.le_refl _, by omega, fun _ => ⟨g, 0, rfl, fun j hj => ?_⟩⟩
  have : j = 0 := by simp at hj; exact hj
  subst this
  refine ⟨_, ⟨none, 0, 0, none, 0, 0, none, 0, 0, rfl, ⟨none, none, none, 0, 0, 0, rfl, ⟨Rd.nil _, Rd.nil _, Rd.nil _⟩⟩⟩, fun i hi => ?_⟩
  show W.cell? ⟨g, 0 + 0 * 11 + i, none⟩ = _
  rw [show 0 + 0 * 11 + i = i by omega]
  rcases i with _ | _ | _ | _ | _ | _ | _ | _ | _ | _ | _ | i
  all_goals first | exact h.cell _ rfl | omega
theorem eK21_ok : ∀ kn ∈ [eK21], NodOk kn.n := by
  intro kn h
  rw [List.mem_singleton] at h
  subst h
  refine ⟨by decide, by decide, (fun x hx => by cases hx), by decide, by decide, by decide, by decide, (fun j hj => absurd hj (Nat.not_lt_zero _))⟩
theorem eK21_all : learnAll [eK21] = [eK21] := rfl
theorem live1 {r : Bool} {cs' : List Ch} {k' m' : Int} (h : ChIs [eK21] [] [] 0 0 ⟨0, 0, 0, 0, false, false, eN21⟩ r cs' k' m') : r = true ∧ cs' = [eX1] ∧ k' = 0 ∧ m' = 0 := by
  rcases h with ⟨h | h, _⟩ | ⟨_, _, x', h, rfl⟩
  · cases h
  · simp at h
  · rcases h with ⟨j, hj, _⟩ | ⟨_, i, hi, _⟩ | ⟨_, _, ⟨y, hy, rfl, rfl, rfl, rfl⟩ | ⟨hy, _⟩⟩
    · simp at hj
    · simp at hi
    · have e : y = eK21 := by
        have h2 : kfind [eK21] 0 = some eK21 := rfl
        have h3 : some eK21 = some y := h2.symm.trans hy
        injection h3 with h3
        exact h3.symm
      subst e
      exact ⟨rfl, rfl, rfl, rfl⟩
    · exact absurd (show kfind [eK21] 0 = none from hy) (by decide)
theorem live2 {r : Bool} {cs' : List Ch} {k' m' : Int} (h : ChIs [eK21] [] [eX1] 0 0 ⟨0, 0, 0, 0, false, true, eN21⟩ r cs' k' m') : r = true ∧ cs' = [eX1, eX2] ∧ k' = 0 ∧ m' = 0 := by
  have hl : lastC [eX1] 0 1 = 0 := rfl
  rcases h with ⟨h | h, _⟩ | ⟨_, _, x', h, rfl⟩
  · exact absurd h (by decide)
  · simp at h
  · rcases h with ⟨j, hj, h1, rfl, rfl, rfl, rfl⟩ | ⟨h1, _⟩ | ⟨h1, _⟩
    · have e : j = 0 := by simp at hj; exact hj
      subst e
      exact ⟨rfl, rfl, rfl, rfl⟩
    · exact absurd (hl.symm.trans h1) (by decide)
    · exact absurd (hl.symm.trans h1) (by decide)
set_option maxHeartbeats 4000000 in
set_option maxRecDepth 100000 in
theorem lives21_any (w : World) : Calls Try.prog 12 #[] w fun e w' => e = .returned (.bool true) ∧ Below w.heap.size w w' := by
  have HEM := Lib.hid (fun W => empty_any W)
  go_enter Try.func12, Try.ntmps12
  go_wp2_with fail
  refine (HEM.out _).mono ?_
  rintro e w1 ⟨rfl, hb1⟩
  have n1 := BX.new w1 43 #[.int .i64 0, .int .u64 1, .int .u64 5, .int .i64 0, .string ⟨#[]⟩, .string ⟨#[]⟩, .bool true, .int .i64 (-1), .slice none 0 0, .slice none 0 0, .slice none 0 0]
  have hx1 := boxed_below w1 (.cells #[.int .i64 0, .int .u64 1, .int .u64 5, .int .i64 0, .string ⟨#[]⟩, .string ⟨#[]⟩, .bool true, .int .i64 (-1), .slice none 0 0, .slice none 0 0, .slice none 0 0] 43)
  obtain ⟨W1, hW1⟩ : ∃ W, W = w1.alloc (.cells #[.int .i64 0, .int .u64 1, .int .u64 5, .int .i64 0, .string ⟨#[]⟩, .string ⟨#[]⟩, .bool true, .int .i64 (-1), .slice none 0 0, .slice none 0 0, .slice none 0 0] 43) := ⟨_, rfl⟩
  rw [← hW1] at n1 hx1
  have HX1 := Lib.hid (hb1.trans (hx1.mono hb1.size))
  have HV1 := Lib.hid (view_says W1 _ 1 1 [eK21] W1 (Below.refl _ _) (eK21_row n1) eK21_ok (by omega))
  rw [eK21_all] at HV1
  have HW1 := Lib.hid hW1
  clear hb1 n1 hx1 hW1
  go_wp2_with fail
  rw [← HW1.out]
  clear HW1
  refine HV1.out.mono ?_
  rintro e w2 ⟨A, b, N, rfl, hf2, hb2⟩
  have HF2 := Lib.hid hf2
  have HX2 := Lib.hid (HX1.out.trans (hb2.mono HX1.out.size))
  have HLE := Lib.hid HX1.out.size
  clear hf2 hb2 HV1 HX1
  go_wp2_with fail
  refine (begin_any (some ⟨A, 0, none⟩) w2).mono ?_
  rintro e w3 ⟨rfl, rfl⟩
  obtain ⟨E, hE⟩ : ∃ g, g = w2.heap.size := ⟨_, rfl⟩
  have he := begin_es HF2.out
  have hb3 := boxed_below w2 (.cells #[.pointer (some ⟨A, 0, none⟩), .slice none 0 0, .slice none 0 0] 71)
  rw [← hE] at he ⊢
  obtain ⟨W3, hW3⟩ : ∃ W, W = w2.alloc (.cells #[.pointer (some ⟨A, 0, none⟩), .slice none 0 0, .slice none 0 0] 71) := ⟨_, rfl⟩
  rw [← hW3] at he hb3 ⊢
  have HE3 := Lib.hid he
  have HX3 := Lib.hid (HX2.out.trans (hb3.mono HX2.out.size))
  clear he hb3 hE hW3 HF2 HX2
  go_wp2_with fail
  refine (HEM.out _).mono ?_
  rintro e w4 ⟨rfl, hb4⟩
  have HE4 := Lib.hid (HE3.out.keep hb4)
  have HX4 := Lib.hid (HX3.out.trans (hb4.mono HX3.out.size))
  have HS4 := Lib.hid (set_any 0 eN21 none 0 none 0 none 0 false w4 HE4.out ⟨Rd.nil _, Rd.nil _, Rd.nil _⟩ ⟨by decide, by decide, by decide⟩ (by decide))
  unfold eN21 at HS4
  clear hb4 HE3 HX3
  go_wp2_with fail
  refine HS4.out.mono ?_
  rintro e w5 ⟨r, ao5, nc5, cc5, k5, m5, cs5, rfl, he5, ht5, his5⟩
  obtain ⟨rfl, rfl, rfl, rfl⟩ := live1 his5
  have HE5 := Lib.hid he5
  have HX5 := Lib.hid (HX4.out.trans (ht5.below (fun g hg => Nat.le_trans HLE.out (HE4.out.base g hg)) HX4.out.size))
  clear he5 ht5 his5 HE4 HX4 HS4
  go_wp2_with fail
  refine (HEM.out _).mono ?_
  rintro e w6 ⟨rfl, hb6⟩
  have HE6 := Lib.hid (HE5.out.keep hb6)
  have HX6 := Lib.hid (HX5.out.trans (hb6.mono HX5.out.size))
  have HS6 := Lib.hid (set_any 0 eN21 none 0 none 0 none 0 true w6 HE6.out ⟨Rd.nil _, Rd.nil _, Rd.nil _⟩ ⟨by decide, by decide, by decide⟩ (by decide))
  unfold eN21 at HS6
  clear hb6 HE5 HX5
  go_wp2_with fail
  refine HS6.out.mono ?_
  rintro e w7 ⟨r, ao7, nc7, cc7, k7, m7, cs7, rfl, he7, ht7, his7⟩
  obtain ⟨rfl, rfl, rfl, rfl⟩ := live2 his7
  have HE7 := Lib.hid he7
  have HX7 := Lib.hid (HX6.out.trans (ht7.below (fun g hg => Nat.le_trans HLE.out (HE6.out.base g hg)) HX6.out.size))
  have HC7 := Lib.hid (changes_any w7 he7 (by decide))
  clear he7 ht7 his7 HE6 HX6 HS6
  go_wp2_with fail
  refine HC7.out.mono ?_
  rintro e w8 ⟨ao, n, c, rfl, hcs, _, _, hb8⟩
  have HX8 := Lib.hid (HX7.out.trans (hb8.mono HX7.out.size))
  obtain rfl : n = 2 := hcs.len.1
  obtain ⟨g, o, ak, nk, ck, av, nv, cv, ac, nn, cn, rfl, _, hc0⟩ := hcs.get (j := 0) (by omega)
  obtain ⟨g', o', ak', nk', ck', av', nv', cv', ac', nn', cn', e2, _, hc1⟩ := hcs.get (j := 1) (by omega)
  injection e2 with e2
  injection e2 with e21 e22 _
  subst e21 e22
  have hl2 := hcs.len.2
  have p1 : w8.cell? ⟨g, o + 1, none⟩ = some (.int .i64 (-1)) := by have := hc0 w8 (Below.refl _ _) 1 (by decide); rw [Nat.zero_mul, Nat.add_zero] at this; exact this
  have p3 : w8.cell? ⟨g, o + 3, none⟩ = some (.int .u64 5) := by have := hc0 w8 (Below.refl _ _) 3 (by decide); rw [Nat.zero_mul, Nat.add_zero] at this; exact this
  have s1 : w8.cell? ⟨g, o + 14 + 1, none⟩ = some (.int .i64 0) := by have := hc1 w8 (Below.refl _ _) 1 (by decide); rw [Nat.one_mul] at this; exact this
  have s3 : w8.cell? ⟨g, o + 14 + 3, none⟩ = some (.int .u64 6) := by have := hc1 w8 (Below.refl _ _) 3 (by decide); rw [Nat.one_mul] at this; exact this
  have s5 : w8.cell? ⟨g, o + 14 + 5, none⟩ = some (.bool true) := by have := hc1 w8 (Below.refl _ _) 5 (by decide); rw [Nat.one_mul] at this; exact this
  clear hcs hb8 hc0 hc1 HE7 HX7 HC7
  go_wp2
  go_ret
  exact ⟨rfl, HX8.out⟩
end Go.Proofs.Ytdbklklmpnlinaa

namespace Go.Proofs.Ytdbklklmpnlinaa
open Go.RowKit Go.Maps

theorem eview_no (v : Value) (w : World) (h : NoEd w v) : Calls Try.prog 25 #[v] w fun e w' => e = .returned (.pointer none) ∧ w = w' := by
  have HI := Lib.hid (begun_no v w h)
  obtain ⟨a, rfl⟩ := h.ptr
  clear h
  go_enter Try.func25, Try.ntmps25
  go_wp2_with fail
  refine HI.out.mono ?_
  rintro e w2 ⟨rfl, h2⟩
  rw [← h2]
  clear h2
  go_wp2
  go_ret
  exact ⟨rfl, rfl⟩
theorem echanges_no (v : Value) (w : World) (h : NoEd w v) : Calls Try.prog 22 #[v] w fun e w' => e = .returned (.slice none 0 0) ∧ w = w' := by
  have HI := Lib.hid (begun_no v w h)
  obtain ⟨a, rfl⟩ := h.ptr
  clear h
  go_enter Try.func22, Try.ntmps22
  go_wp2_with fail
  refine HI.out.mono ?_
  rintro e w2 ⟨rfl, h2⟩
  rw [← h2]
  clear h2
  go_wp2
  go_ret
  exact ⟨rfl, rfl⟩
theorem espare_no (v : Value) (w : World) (h : NoEd w v) : Calls Try.prog 20 #[v] w fun e w' => e = .returned (.tuple #[.int .i64 0, .bool false]) ∧ w = w' := by
  have HI := Lib.hid (begun_no v w h)
  obtain ⟨a, rfl⟩ := h.ptr
  clear h
  go_enter Try.func20, Try.ntmps20
  go_wp2_with fail
  refine HI.out.mono ?_
  rintro e w2 ⟨rfl, h2⟩
  rw [← h2]
  clear h2
  go_wp2
  go_ret2
  exact ⟨rfl, rfl⟩
theorem echange_no (v : Value) (c fr wd vr : Int) (em li : Bool) (lv nx : Int) (lo hi : ByteArray) (la : Bool) (kv vv cv : Value) (w : World) (h : NoEd w v) : Calls Try.prog 42 #[v, .agg #[.int .i64 c, .int .i64 fr, .int .u64 wd, .int .u64 vr, .bool em, .bool li, .int .i64 lv, .string lo, .string hi, .bool la, .int .i64 nx, kv, vv, cv]] w fun e w' => e = .returned (.bool false) ∧ Below w.heap.size w w' := by
  have hb1 := boxed_below w (.cells #[.int .i64 c, .int .i64 fr, .int .u64 wd, .int .u64 vr, .bool em, .bool li, .int .i64 lv, .string lo, .string hi, .bool la, .int .i64 nx, kv, vv, cv] 97)
  obtain ⟨W1, hW1⟩ : ∃ W, W = w.alloc (.cells #[.int .i64 c, .int .i64 fr, .int .u64 wd, .int .u64 vr, .bool em, .bool li, .int .i64 lv, .string lo, .string hi, .bool la, .int .i64 nx, kv, vv, cv] 97) := ⟨_, rfl⟩
  rw [← hW1] at hb1
  have HI := Lib.hid (begun_no v W1 (h.keep hb1))
  obtain ⟨a, rfl⟩ := h.ptr
  have HB := Lib.hid hb1
  have HW := Lib.hid hW1
  clear h hb1 hW1
  go_enter Try.func42, Try.ntmps42
  go_upto_region 1 with fail
  rw [← HW.out]
  go_wp2_with fail
  refine HI.out.mono ?_
  rintro e w2 ⟨rfl, h2⟩
  rw [← h2]
  clear h2
  go_wp2
  go_ret
  exact ⟨rfl, HB.out⟩
theorem eclear_no (v : Value) (c : Int) (w : World) (h : NoEd w v) : Calls Try.prog 19 #[v, .int .i64 c] w fun e w' => e = .returned (.bool false) ∧ Below w.heap.size w w' := by
  have HI := Lib.hid (echange_no v c 0 0 0 true false 0 0 ⟨#[]⟩ ⟨#[]⟩ false (.slice none 0 0) (.slice none 0 0) (.slice none 0 0) w h)
  obtain ⟨a, rfl⟩ := h.ptr
  clear h
  go_enter Try.func19, Try.ntmps19
  go_wp2_with fail
  refine HI.out.mono ?_
  rintro e w2 ⟨rfl, hb⟩
  have HB := Lib.hid hb
  clear hb
  go_wp2
  go_ret
  exact ⟨rfl, HB.out⟩
theorem eat_no (v : Value) (c : Int) (w : World) (h : NoEd w v) : Calls Try.prog 18 #[v, .int .i64 c] w fun e w' => e = .returned (.tuple #[.agg #[.int .i64 0, .string ⟨#[]⟩, .string ⟨#[]⟩, .bool false, .int .i64 0, .slice none 0 0, .slice none 0 0, .slice none 0 0], .bool false]) ∧ Below w.heap.size w w' := by
  have hb1 := boxed_below w (.cells #[.int .i64 0, .string ⟨#[]⟩, .string ⟨#[]⟩, .bool false, .int .i64 0, .slice none 0 0, .slice none 0 0, .slice none 0 0] 41)
  have n1 := BX.new w 41 #[.int .i64 0, .string ⟨#[]⟩, .string ⟨#[]⟩, .bool false, .int .i64 0, .slice none 0 0, .slice none 0 0, .slice none 0 0]
  obtain ⟨G, hG⟩ : ∃ g, g = w.heap.size := ⟨_, rfl⟩
  rw [← hG] at n1
  obtain ⟨W1, hW1⟩ : ∃ W, W = w.alloc (.cells #[.int .i64 0, .string ⟨#[]⟩, .string ⟨#[]⟩, .bool false, .int .i64 0, .slice none 0 0, .slice none 0 0, .slice none 0 0] 41) := ⟨_, rfl⟩
  rw [← hW1] at hb1 n1
  have HI := Lib.hid (begun_no v W1 (h.keep hb1))
  obtain ⟨a, rfl⟩ := h.ptr
  have HB := Lib.hid (show _ ∧ w.heap.size ≤ G from ⟨hb1, by omega⟩)
  have HW := Lib.hid (show G = w.heap.size ∧ _ from ⟨hG, hW1⟩)
  have k0 := n1.cell 0 rfl
  have k1 := n1.cell 1 rfl
  have k2 := n1.cell 2 rfl
  have k3 := n1.cell 3 rfl
  have k4 := n1.cell 4 rfl
  have k5 := n1.cell 5 rfl
  have k6 := n1.cell 6 rfl
  have k7 := n1.cell 7 rfl
  have f0 := n1.frozen 0
  have f1 := n1.frozen 1
  have f2 := n1.frozen 2
  have f3 := n1.frozen 3
  have f4 := n1.frozen 4
  have f5 := n1.frozen 5
  have f6 := n1.frozen 6
  have f7 := n1.frozen 7
  clear h hb1 n1 hG hW1
  go_enter Try.func18, Try.ntmps18
  go_upto_region 1 with fail
  rw [← HW.out.1, ← HW.out.2]
  go_wp2_with fail
  refine HI.out.mono ?_
  rintro e w2 ⟨rfl, h2⟩
  rw [← h2]
  clear h2
  go_wp2
  refine bodyPost_ret (v := .tuple #[.agg #[.int .i64 0, .string ⟨#[]⟩, .string ⟨#[]⟩, .bool false, .int .i64 0, .slice none 0 0, .slice none 0 0, .slice none 0 0], .bool false]) (by simp [results, Try.results18, go_sem, *]) rfl ⟨rfl, ?_⟩
  repeat' (first | (with_reducible exact HB.out.1) | (with_reducible refine Below.setCell ?_ HB.out.2 _))
set_option maxHeartbeats 1000000 in
theorem eset_no (v : Value) (c : Int) (li : Bool) (lv nx : Int) (lo hi : ByteArray) (la : Bool) (ak av ac : Option Addr) (nk ck nv cv nc cc : Nat) (ks : List ByteArray) (vs : List Nat) (cs : List Int) (w : World) (h : NoEd w v) (hN : NdAt w ak av ac nk ck nv cv nc cc ks vs cs) (hn : nk ≤ 274877906944 ∧ nv ≤ 274877906944 ∧ nc ≤ 274877906944) :
    Calls Try.prog 17 #[v, .int .i64 c, .agg #[.int .i64 lv, .string lo, .string hi, .bool la, .int .i64 nx, .slice ak nk ck, .slice av nv cv, .slice ac nc cc], .bool li] w fun e w' => e = .returned (.bool false) ∧ Below w.heap.size w w' := by
  have hb1 := boxed_below w (.cells #[.int .i64 lv, .string lo, .string hi, .bool la, .int .i64 nx, .slice ak nk ck, .slice av nv cv, .slice ac nc cc] 41)
  have n1 := BX.new w 41 #[.int .i64 lv, .string lo, .string hi, .bool la, .int .i64 nx, .slice ak nk ck, .slice av nv cv, .slice ac nc cc]
  obtain ⟨G, hG⟩ : ∃ g, g = w.heap.size := ⟨_, rfl⟩
  rw [← hG] at n1
  obtain ⟨W1, hW1⟩ : ∃ W, W = w.alloc (.cells #[.int .i64 lv, .string lo, .string hi, .bool la, .int .i64 nx, .slice ak nk ck, .slice av nv cv, .slice ac nc cc] 41) := ⟨_, rfl⟩
  rw [← hW1] at hb1 n1
  have HCN := Lib.hid (nclone_any lv nx lo hi la ak av ac nk ck nv cv nc cc ks vs cs W1 (hN.keep hb1) hn)
  have HNO := Lib.hid (h.keep hb1)
  obtain ⟨a, rfl⟩ := h.ptr
  have HB := Lib.hid hb1
  have HW := Lib.hid (show G = w.heap.size ∧ _ from ⟨hG, hW1⟩)
  have k0 := n1.cell 0 rfl
  have k1 := n1.cell 1 rfl
  have k2 := n1.cell 2 rfl
  have k3 := n1.cell 3 rfl
  have k4 := n1.cell 4 rfl
  have k5 := n1.cell 5 rfl
  have k6 := n1.cell 6 rfl
  have k7 := n1.cell 7 rfl
  clear h hb1 n1 hG hW1 hN hn
  go_enter Try.func17, Try.ntmps17
  go_upto_region 1 with fail
  rw [← HW.out.1, ← HW.out.2]
  go_wp2_with fail
  refine HCN.out.mono ?_
  rintro e w2 ⟨kv, vv, cv, rfl, hk, hv, hc, hb2⟩
  obtain ⟨ka, rfl⟩ := hk.open
  obtain ⟨va, rfl⟩ := hv.open
  obtain ⟨ca, rfl⟩ := hc.open
  simp only [List.length_map]
  have HC := Lib.hid (fun n1 n2 n3 m1 m2 m3 => echange_no (.pointer a) c 0 0 0 false li lv nx lo hi la (.slice ka n1 m1) (.slice va n2 m2) (.slice ca n3 m3) w2 (HNO.out.keep hb2))
  have HB2 := Lib.hid (HB.out.trans (hb2.mono HB.out.size))
  clear hk hv hc hb2 k0 k1 k2 k3 k4 k5 k6 k7
  go_wp2_with fail
  refine (HC.out _ _ _ _ _ _).mono ?_
  rintro e w3 ⟨rfl, hb3⟩
  have HB3 := Lib.hid (HB2.out.trans (hb3.mono HB2.out.size))
  clear hb3
  go_wp2
  go_ret
  exact ⟨rfl, HB3.out⟩
end Go.Proofs.Ytdbklklmpnlinaa

namespace Go.Proofs.Ytdbklklmpnlinaa
open Go.RowKit Go.Maps

set_option maxHeartbeats 4000000 in
set_option maxRecDepth 100000 in
theorem editNobody_any (kd c : Int) (lv nx : Int) (lo hi : ByteArray) (la : Bool) (ak av ac : Option Addr) (nk ck nv cv nc cc : Nat) (ks : List ByteArray) (vs : List Nat) (cs : List Int) (li : Bool) (w : World) (hN : NdAt w ak av ac nk ck nv cv nc cc ks vs cs) :
    Calls Try.prog 5 #[.agg #[.int .i64 kd, .int .i64 c, .int .i64 lv, .string lo, .string hi, .bool la, .int .i64 nx, .slice ak nk ck, .slice av nv cv, .slice ac nc cc, .bool li]] w fun e w' => e = .returned (.bool true) ∧ Below w.heap.size w w' := by
  have hb1 := boxed_below w (.cells #[.int .i64 kd, .int .i64 c, .int .i64 lv, .string lo, .string hi, .bool la, .int .i64 nx, .slice ak nk ck, .slice av nv cv, .slice ac nc cc, .bool li] 58)
  have n1 := BX.new w 58 #[.int .i64 kd, .int .i64 c, .int .i64 lv, .string lo, .string hi, .bool la, .int .i64 nx, .slice ak nk ck, .slice av nv cv, .slice ac nc cc, .bool li]
  obtain ⟨G, hG⟩ : ∃ g, g = w.heap.size := ⟨_, rfl⟩
  rw [← hG] at n1
  obtain ⟨W1, hW1⟩ : ∃ W, W = w.alloc (.cells #[.int .i64 kd, .int .i64 c, .int .i64 lv, .string lo, .string hi, .bool la, .int .i64 nx, .slice ak nk ck, .slice av nv cv, .slice ac nc cc, .bool li] 58) := ⟨_, rfl⟩
  rw [← hW1] at hb1 n1
  have hl1 := rd_len hN.k
  have hl2 := rd_len hN.v
  have hl3 := rd_len hN.c
  have HL := Lib.hid (nlight_any lv nx lo hi la ak av ac nk ck nv cv nc cc ks W1 (hN.k.keep hb1) (by omega) (by omega))
  have HLV := Lib.hid (fun W => lives21_any W)
  have HX1 := Lib.hid hb1
  have HN1 := Lib.hid n1
  have HND := Lib.hid hN
  have HW := Lib.hid (show G = w.heap.size ∧ _ from ⟨hG, hW1⟩)
  have q2 := n1.cell 2 rfl
  have q3 := n1.cell 3 rfl
  have q4 := n1.cell 4 rfl
  have q5 := n1.cell 5 rfl
  have q6 := n1.cell 6 rfl
  have q7 := n1.cell 7 rfl
  have q8 := n1.cell 8 rfl
  have q9 := n1.cell 9 rfl
  clear hb1 n1 hG hW1 hl1 hl2 hl3 hN
  go_enter Try.func5, Try.ntmps5
  go_upto_region 1 with fail
  rw [← HW.out.1, ← HW.out.2]
  go_wp2_with fail
  refine HL.out.mono ?_
  rintro e w2 ⟨r, rfl, hr, hb2⟩
  have HX2 := Lib.hid (HX1.out.trans (hb2.mono HX1.out.size))
  have HN2 := Lib.hid (HN1.out.below hb2)
  have HR := Lib.hid hr
  clear hb2 hr q2 q3 q4 q5 q6 q7 q8 q9
  cases r with
  | false =>
    go_wp2_with fail
    refine (HLV.out _).mono ?_
    rintro e w9 ⟨rfl, hb9⟩
    have HX9 := Lib.hid (HX2.out.trans (hb9.mono HX2.out.size))
    clear hb9
    go_wp2
    go_ret
    exact ⟨rfl, HX9.out⟩
  | true =>
    have HSZ := Lib.hid (show nk ≤ 274877906944 ∧ nv ≤ 274877906944 ∧ nc ≤ 274877906944 from by have := (HR.out.1 rfl).n; omega)
    obtain ⟨E1, hE1⟩ : ∃ g, g = w2.heap.size := ⟨_, rfl⟩
    have b3 := boxed_below w2 (.cells #[.pointer none, .slice none 0 0, .slice none 0 0] 71)
    have x3 := BX.new w2 71 #[.pointer none, .slice none 0 0, .slice none 0 0]
    obtain ⟨W3, hW3⟩ : ∃ W, W = w2.alloc (.cells #[.pointer none, .slice none 0 0, .slice none 0 0] 71) := ⟨_, rfl⟩
    rw [← hW3] at b3 x3
    rw [← hE1] at x3
    obtain ⟨E2, hE2⟩ : ∃ g, g = W3.heap.size := ⟨_, rfl⟩
    have b4 := boxed_below W3 (.cells #[.pointer none, .slice none 0 0, .slice none 0 0] 71)
    have x4 := BX.new W3 71 #[.pointer none, .slice none 0 0, .slice none 0 0]
    obtain ⟨W4, hW4⟩ : ∃ W, W = W3.alloc (.cells #[.pointer none, .slice none 0 0, .slice none 0 0] 71) := ⟨_, rfl⟩
    rw [← hW4] at b4 x4
    rw [← hE2] at x4
    obtain ⟨R, hR⟩ : ∃ g, g = W4.heap.size := ⟨_, rfl⟩
    have b5 := boxed_below W4 (.cells #[.pointer none, .pointer (some ⟨E1, 0, none⟩), .pointer (some ⟨E2, 0, none⟩)] 55)
    have x5 := BX.new W4 55 #[.pointer none, .pointer (some ⟨E1, 0, none⟩), .pointer (some ⟨E2, 0, none⟩)]
    obtain ⟨W5, hW5⟩ : ∃ W, W = W4.alloc (.cells #[.pointer none, .pointer (some ⟨E1, 0, none⟩), .pointer (some ⟨E2, 0, none⟩)] 55) := ⟨_, rfl⟩
    rw [← hW5] at b5 x5
    rw [← hR] at x5
    have b45 := b4.trans (b5.mono b4.size)
    have b35 := b3.trans (b45.mono b3.size)
    have HX5 := Lib.hid (HX2.out.trans (b35.mono HX2.out.size))
    have HN5 := Lib.hid (HN2.out.below b35)
    have HR5 := Lib.hid x5
    have HE := Lib.hid (show NoEd W5 (.pointer (some ⟨E1, 0, none⟩)) ∧ NoEd W5 (.pointer (some ⟨E2, 0, none⟩)) from ⟨Or.inr ⟨E1, rfl, x3.below b45⟩, Or.inr ⟨E2, rfl, x4.below b5⟩⟩)
    have HBG := Lib.hid (begin_any none W3)
    have HW5 := Lib.hid (show E1 = w2.heap.size ∧ W3 = _ ∧ E2 = W3.heap.size ∧ W4 = _ ∧ R = W4.heap.size ∧ W5 = _ from ⟨hE1, hW3, hE2, hW4, hR, hW5⟩)
    clear b3 x3 hW3 hE1 b4 x4 hW4 hE2 b5 x5 hW5 hR b45 b35 HX2 HN2 HR HL
    go_wp2_with fail
    rw [← HW5.out.1, ← HW5.out.2.1]
    refine HBG.out.mono ?_
    rintro e w4 ⟨rfl, rfl⟩
    rw [← HW5.out.2.2.1, ← HW5.out.2.2.2.1]
    go_wp2_with fail
    rw [← HW5.out.2.2.2.2.1, ← HW5.out.2.2.2.2.2]
    go_loopw [19] (fun s wr => ∃ i : Nat, s = .int .i64 i ∧ i ≤ 3 ∧ Hid (Below W5.heap.size W5 wr)) (fun s _ => 3 - (intOf s).toNat)
    case atStart => exact ⟨0, rfl, Nat.zero_le _, Lib.hid (Below.refl _ _)⟩
    case round =>
      obtain ⟨i, rfl, hile, HS⟩ := hrel
      obtain ⟨wx, hwx⟩ : ∃ V : World, V = wr := ⟨_, rfl⟩
      rw [← hwx] at HS ⊢
      clear hwx
      by_cases hlt : i < 3
      · have hlt' : (i : Int) < 3 := by omega
        obtain ⟨a, hno, hcell⟩ : ∃ a, NoEd W5 (.pointer a) ∧ wx.cell? ⟨R, i, none⟩ = some (.pointer a) := by
          have hr := HR5.out.below HS.out
          rcases (show i = 0 ∨ i = 1 ∨ i = 2 by omega) with rfl | rfl | rfl
          · exact ⟨none, Or.inl rfl, hr.cell 0 rfl⟩
          · exact ⟨_, HE.out.1, hr.cell 1 rfl⟩
          · exact ⟨_, HE.out.2, hr.cell 2 rfl⟩
        have HNO := Lib.hid hno
        have c1 := (HN5.out.below HS.out).cell 1 rfl
        have HAT := Lib.hid (eat_no (.pointer a) c wx (HNO.out.keep HS.out))
        clear hno
        go_wp2_with fail
        refine HAT.out.mono ?_
        rintro e w6 ⟨rfl, hb6⟩
        have hb7 := boxed_below w6 (.cells #[.int .i64 0, .string ⟨#[]⟩, .string ⟨#[]⟩, .bool false, .int .i64 0, .slice none 0 0, .slice none 0 0, .slice none 0 0] 41)
        obtain ⟨W7, hW7⟩ : ∃ W, W = w6.alloc (.cells #[.int .i64 0, .string ⟨#[]⟩, .string ⟨#[]⟩, .bool false, .int .i64 0, .slice none 0 0, .slice none 0 0, .slice none 0 0] 41) := ⟨_, rfl⟩
        rw [← hW7] at hb7
        have HB7 := Lib.hid (HS.out.trans ((hb6.trans (hb7.mono hb6.size)).mono HS.out.size))
        have HW7 := Lib.hid hW7
        have HSP := Lib.hid (espare_no (.pointer a) W7 (HNO.out.keep HB7.out))
        clear hcell c1 hb6 hb7 hW7
        go_wp2_with fail
        rw [← HW7.out]
        refine HSP.out.mono ?_
        rintro e w8 ⟨rfl, h8⟩
        rw [← h8]
        clear h8
        have hn7 := HN5.out.below HB7.out
        have c1 := hn7.cell 1 rfl
        have c2 := hn7.cell 2 rfl
        have c3 := hn7.cell 3 rfl
        have c4 := hn7.cell 4 rfl
        have c5 := hn7.cell 5 rfl
        have c6 := hn7.cell 6 rfl
        have c7 := hn7.cell 7 rfl
        have c8 := hn7.cell 8 rfl
        have c9 := hn7.cell 9 rfl
        have c10 := hn7.cell 10 rfl
        have HST := Lib.hid (eset_no (.pointer a) c li lv nx lo hi la ak av ac nk ck nv cv nc cc ks vs cs W7 (HNO.out.keep HB7.out) (HND.out.keep (HX5.out.trans (HB7.out.mono HX5.out.size))) HSZ.out)
        clear hn7
        go_wp2_with fail
        refine HST.out.mono ?_
        rintro e w9 ⟨rfl, hb9⟩
        have HB9 := Lib.hid (HB7.out.trans (hb9.mono HB7.out.size))
        have d1 := (HN5.out.below HB9.out).cell 1 rfl
        have HCL := Lib.hid (eclear_no (.pointer a) c w9 (HNO.out.keep HB9.out))
        clear hb9 c1 c2 c3 c4 c5 c6 c7 c8 c9 c10
        go_wp2_with fail
        refine HCL.out.mono ?_
        rintro e w10 ⟨rfl, hb10⟩
        have HB10 := Lib.hid (HB9.out.trans (hb10.mono HB9.out.size))
        have HCH := Lib.hid (echanges_no (.pointer a) w10 (HNO.out.keep HB10.out))
        have HVW := Lib.hid (eview_no (.pointer a) w10 (HNO.out.keep HB10.out))
        clear hb10 d1
        go_wp2_with fail
        refine HCH.out.mono ?_
        rintro e w11 ⟨rfl, h11⟩
        rw [← h11]
        clear h11
        go_wp2_with fail
        refine HVW.out.mono ?_
        rintro e w12 ⟨rfl, h12⟩
        rw [← h12]
        clear h12
        go_wp2
        go_roundw
        case rel => exact ⟨i + 1, by go_num, by omega, HB10⟩
        case measure => simp [intOf]; omega
      · obtain rfl : i = 3 := by omega
        have HX6 := Lib.hid (HX5.out.trans (HS.out.mono HX5.out.size))
        go_wp2_with fail
        refine (HLV.out _).mono ?_
        rintro e w9 ⟨rfl, hb9⟩
        have HX9 := Lib.hid (HX6.out.trans (hb9.mono HX6.out.size))
        clear hb9
        go_wp2
        go_ret
        exact ⟨rfl, HX9.out⟩
end Go.Proofs.Ytdbklklmpnlinaa
