/- bowerref06.All on rows of pairs of which each key is there once: the rising list. Conditions: at most 2^38 pairs, texts of at most 2^47 bytes. -/
import Derived.Test.YtnlghdkgejimpaaPairPut
import Derived.Test.YtnlghdkgejimpaaPairSort
import Derived.Deep.LoopGhost
import Derived.IntWalk
namespace Go.Proofs.Ytnlghdkgejimpaa
open Go.RowKit

theorem OwnP.open {w : World} {B : Nat} {v : Value} {ps : List (ByteArray × Int)} (h : OwnP w B v ps) : ∃ ao c, v = .slice ao ps.length c := h.rd.open

theorem lss_nil (a : List UInt8) : lss a [] = false := by cases a <;> rfl
theorem lss_pos {a : ByteArray} (h : a ≠ ⟨#[]⟩) : lss [] a.data.toList = true := by
  cases e : a.data.toList with
  | nil =>
    exfalso
    apply h
    apply ByteArray.ext
    apply Array.ext'
    exact e
  | cons x xs => rfl

/-- The first one of a rising list: the empty key, if it is there; else the best one above it. -/
theorem all_first {ps ss : List (ByteArray × Int)} (hs : SameS ps ss) (hr : RiseP ss) (h0 : 0 < ss.length) :
    (∀ z, getP ps ⟨#[]⟩ = (z, true) → ntp ss 0 = (⟨#[]⟩, z)) ∧ ((getP ps ⟨#[]⟩).2 = false → selP (nextC ⟨#[]⟩) nextB ps = some (ntp ss 0)) := by
  refine ⟨fun z hz => ?_, fun hn => ?_⟩
  · obtain ⟨i, hi, e⟩ := List.getElem_of_mem ((hs _).1 (getP_mem hz))
    rw [ntp_eq h0]
    by_cases hi0 : i = 0
    · subst hi0; exact e
    · have := rise_lt hr 0 i (by omega) hi
      rw [e] at this
      rw [show (ByteArray.mk #[]).data.toList = [] from rfl, lss_nil] at this
      cases this
  · have hne := getP_none hn
    rw [next_rise hs hr ⟨#[]⟩ 0 (fun i _ h => absurd h (Nat.not_lt_zero _)) (fun i h _ => lss_pos (hne _ ((hs _).2 (List.getElem_mem h)))), List.getElem?_eq_getElem h0, ntp_eq h0]

theorem all_next {ps ss : List (ByteArray × Int)} (hs : SameS ps ss) (hr : RiseP ss) (j : Nat) (h1 : 0 < j) (hj : j < ss.length) : selP (nextC (ntp ss (j - 1)).1) nextB ps = some (ntp ss j) := by
  rw [next_rise hs hr _ j (fun i h hi => ?_) (fun i h hi => ?_), List.getElem?_eq_getElem hj, ntp_eq hj]
  · rw [ntp_eq (by omega)]
    by_cases e : i = j - 1
    · subst e; exact lss_irrefl _
    · exact lss_asymm _ _ (rise_lt hr i (j - 1) (by omega) (by omega))
  · rw [ntp_eq (by omega)]
    exact rise_lt hr (j - 1) i (by omega) h

theorem take_more (ss : List (ByteArray × Int)) (j : Nat) (hj : j < ss.length) : ss.take (j + 1) = ss.take j ++ [((ntp ss j).1, (ntp ss j).2)] := by
  rw [List.take_succ_eq_append_getElem hj, ntp_eq hj]

theorem ntp_take (ss : List (ByteArray × Int)) (j i : Nat) (hi : i < j) (hj : j ≤ ss.length) : ntp (ss.take j) i = ntp ss i := by
  rw [ntp_eq (by rw [List.length_take]; omega), ntp_eq (by omega), List.getElem_take]

theorem two_news2 (w : World) (o : Obj) (s : ByteArray) (z : Int) (t : TypeId) : ∀ j u, [Value.string s, .int .u64 z][j]? = some u → ((w.alloc o).alloc (.cells #[.string s, .int .u64 z] t)).cell? ((⟨w.heap.size + 1, 0, none⟩ : Addr).add j) = some u := by
  have h := two_news (w.alloc o) s z t
  rw [show (w.alloc o).heap.size = w.heap.size + 1 by simp] at h
  exact h

theorem ownp_next {w : World} {B : Nat} {v : Value} {ss : List (ByteArray × Int)} {j : Nat} {s : ByteArray} {z : Int} (h : w.ownsRow B 37 2 v (j + 1) (pcells (ss.take j) ++ [.string s, .int .u64 z])) (hj : j < ss.length) (he : ntp ss j = (s, z)) : OwnP w B v (ss.take (j + 1)) := by
  have hm := take_more ss j hj
  rw [he] at hm
  rw [hm]
  refine OwnP.more ?_
  rw [List.length_take, show min j ss.length = j by omega]
  exact h

theorem two_below (w : World) (o1 o2 : Obj) : Below w.heap.size w ((w.alloc o1).alloc o2) := ((Below.refl _ _).alloc (Nat.le_refl _) _).alloc (by simp) _

theorem own_two {w : World} {B j : Nat} {v : Value} {ps : List (ByteArray × Int)} (h : OwnP w B v ps) (hl : ps.length = j) (o1 o2 : Obj) : ((w.alloc o1).alloc o2).ownsRow B 37 2 v j (pcells ps) := by
  have h2 := h.keep (two_below w o1 o2)
  unfold OwnP at h2
  rw [hl] at h2
  exact h2

set_option maxHeartbeats 4000000 in
set_option maxRecDepth 100000 in
theorem rall_any (v : Value) (ps ss : List (ByteArray × Int)) (w : World) (hr : RdP w v ps) (hs : SameS ps ss) (hu : RiseP ss) (hl : ps.length = ss.length) (hn : ps.length ≤ 274877906944) (hz : ∀ p ∈ ps, p.1.size ≤ 140737488355328) :
    Calls Try.prog 70 #[v] w fun e w' => DelGives w w' e ss := by
  have HNX := Lib.hid (fun W k (hk : k.size ≤ 140737488355328) (h : RdP W v ps) => rnext_any v k ps W h hn hk hz)
  have HGE := Lib.hid (fun W (h : RdP W v ps) => rget_any v ⟨#[]⟩ ps W h)
  have HA0 := Lib.hid (fun h => all_first hs hu h)
  have HA1 := Lib.hid (fun j h1 hj => all_next hs hu j h1 hj)
  have HTM := Lib.hid (take_more ss)
  have HNT := Lib.hid (ntp_take ss)
  have HSZ := Lib.hid (fun j (hj : j < ss.length) => (show (ntp ss j).1.size ≤ 140737488355328 by rw [ntp_eq hj]; exact hz _ ((hs _).2 (List.getElem_mem hj))))
  have HTL := Lib.hid (fun j (hj : j ≤ ss.length) => (show (ss.take j).length = j by rw [List.length_take]; omega))
  have HF : Hid (ss.take ss.length = ss) := Lib.hid (List.take_length)
  obtain ⟨i0, hi, hz0, hz1, hz2⟩ := info_parts infoPair
  have HI := Lib.hid (show _ ∧ _ ∧ _ ∧ _ from ⟨hi, hz0, hz1, hz2⟩)
  have HR := Lib.hid hr
  obtain ⟨ao, c, rfl⟩ := hr.open
  rw [hl] at HNX HGE HR hn
  rw [hl]
  clear hr hs hu hz hi hz0 hz1 hz2 hl
  obtain ⟨n, hL⟩ : ∃ n, n = ss.length := ⟨_, rfl⟩
  rw [← hL] at HNX HGE HR HA0 HA1 HTM HNT HSZ HTL HF hn ⊢
  have HLN := Lib.hid hL
  clear hL
  go_enter Try.func70, Try.ntmps70
  go_wp2
  go_loopg [3] n (fun kx out wr => ∃ j : Nat, j ≤ n ∧ n - j ≤ kx ∧ Hid (OwnP wr w.heap.size out (ss.take j)) ∧ Hid (Below w.heap.size w wr))
  case atStart => exact ⟨0, Nat.zero_le _, by omega, Lib.hid (OwnP.nil _ _), Lib.hid (Below.refl _ _)⟩
  case round =>
    obtain ⟨j, hj, hjx, hO, hb⟩ := hrel
    obtain ⟨oo, oc, ho⟩ := hO.out.open
    rw [HTL.out j hj] at ho
    subst ho
    by_cases hlt : j < n
    · by_cases hj0 : j = 0
      · subst hj0
        have hfirst := HA0.out (by omega)
        cases hg : (getP ps ⟨#[]⟩).2 with
        | true =>
          have he := hfirst.1 (getP ps ⟨#[]⟩).1 (by rw [← hg])
          have HE := Lib.hid he
          have HG := HGE.out
          rw [hg] at HG
          have HG2 := Lib.hid HG
          clear hfirst hg he HG
          generalize (getP ps ⟨#[]⟩).1 = z at *
          go_wp2_with fail
          refine (HNX.out _ ⟨#[]⟩ (by decide) (HR.out.keep hb.out)).mono ?_
          rintro e w1 ⟨b1, ⟨s1, z1⟩, rfl, hres, hb1⟩
          have O1 := Lib.hid (hO.out.keep hb1)
          have B1 := Lib.hid (hb.out.trans (hb1.mono hb.out.size))
          clear hres
          have G1 := Lib.hid (HG2.out _ (HR.out.keep (B1.out.trans ((one_alloc w1 (.cells #[.string s1, .int .u64 z1] 37)).2.mono B1.out.size))))
          clear hb1
          go_wp2_with fail
          refine G1.out.mono ?_
          rintro e w2 ⟨rfl, rfl⟩
          go_wp2_with ((with_reducible show wpList _ _ _ (⟨some 44, _, _, _, _, _⟩ :: _) _ _); refine wpList_append_own _ rfl (.tmp 41) (.tmp 43) 41 rfl w.heap.size 37 i0 (.agg #[.string ⟨#[]⟩, .int .u64 0]) 2 24 Try.underlying41 HI.out.1 HI.out.2.1 HI.out.2.2.1 HI.out.2.2.2 rfl (by decide) _ 0 (pcells (ss.take 0)) rfl (own_two O1.out (HTL.out 0 hj) _ _) ⟨w1.heap.size + 1, 0, none⟩ 1 1 [.string ⟨#[]⟩, .int .u64 z] rfl rfl (two_news2 w1 _ ⟨#[]⟩ z _) (by intro u hu; simp at hu; rcases hu with rfl | rfl <;> rfl) (by unfold maxLen; omega) (by omega) (Nat.le_trans B1.out.size (two_below w1 _ _).size) ?_; intro v9 w9 hown9 hgrow9 _; have O9 := Lib.hid (ownp_next hown9 (by have := HLN.out; omega) HE.out); have B9 := Lib.hid ((B1.out.trans ((two_below w1 _ _).mono B1.out.size)).grown hgrow9 (Nat.le_trans B1.out.size (two_below w1 _ _).size) (fun k hk => (O1.out.lt k hk).1)); clear hown9 hgrow9)
          go_roundg (n - (0 + 1))
          case measure => omega
          case rel => exact ⟨0 + 1, by omega, Nat.le_refl _, O9, B9⟩
        | false =>
          have he := hfirst.2 hg
          have HSN := Lib.hid he
          have HG := HGE.out
          rw [hg] at HG
          have HG2 := Lib.hid HG
          clear hfirst hg he HG
          generalize (getP ps ⟨#[]⟩).1 = z at *
          go_wp2_with fail
          refine (HNX.out _ ⟨#[]⟩ (by decide) (HR.out.keep hb.out)).mono ?_
          rintro e w1 ⟨b1, ⟨s1, z1⟩, rfl, hres, hb1⟩
          have O1 := Lib.hid (hO.out.keep hb1)
          have B1 := Lib.hid (hb.out.trans (hb1.mono hb.out.size))
          rw [HSN.out] at hres
          have hE : ntp ss 0 = (s1, z1) ∧ b1 = true := by
            rcases hres with ⟨_, _, h⟩ | ⟨h, h2⟩
            · cases h
            · exact ⟨Option.some.inj h2, h⟩
          obtain ⟨he, rfl⟩ := hE
          have HE := Lib.hid he
          clear hres he
          have G1 := Lib.hid (HG2.out _ (HR.out.keep (B1.out.trans ((one_alloc w1 (.cells #[.string s1, .int .u64 z1] 37)).2.mono B1.out.size))))
          clear hb1
          go_wp2_with fail
          refine G1.out.mono ?_
          rintro e w2 ⟨rfl, rfl⟩
          go_wp2_with ((with_reducible show wpList _ _ _ (⟨some 44, _, _, _, _, _⟩ :: _) _ _); refine wpList_append_own _ rfl (.tmp 41) (.tmp 43) 41 rfl w.heap.size 37 i0 (.agg #[.string ⟨#[]⟩, .int .u64 0]) 2 24 Try.underlying41 HI.out.1 HI.out.2.1 HI.out.2.2.1 HI.out.2.2.2 rfl (by decide) _ 0 (pcells (ss.take 0)) rfl (own_two O1.out (HTL.out 0 hj) _ _) ⟨w1.heap.size + 1, 0, none⟩ 1 1 [.string s1, .int .u64 z1] rfl rfl (two_news2 w1 _ s1 z1 _) (by intro u hu; simp at hu; rcases hu with rfl | rfl <;> rfl) (by unfold maxLen; omega) (by omega) (Nat.le_trans B1.out.size (two_below w1 _ _).size) ?_; intro v9 w9 hown9 hgrow9 _; have O9 := Lib.hid (ownp_next hown9 (by have := HLN.out; omega) HE.out); have B9 := Lib.hid ((B1.out.trans ((two_below w1 _ _).mono B1.out.size)).grown hgrow9 (Nat.le_trans B1.out.size (two_below w1 _ _).size) (fun k hk => (O1.out.lt k hk).1)); clear hown9 hgrow9)
          go_roundg (n - (0 + 1))
          case measure => omega
          case rel => exact ⟨0 + 1, by omega, Nat.le_refl _, O9, B9⟩
      · have hjp : 0 < j := by omega
        have HSN := Lib.hid (HA1.out j hjp hlt)
        obtain ⟨g0, o0, rfl, hcs⟩ := (show RdP wr (.slice oo j oc) (ss.take j) from hO.out.rd).at_ (j - 1) (by omega)
        have hc1 := (hcs (j - 1) (by omega)).1
        rw [HNT.out j (j - 1) (by omega) hj] at hc1
        have hksz := HSZ.out (j - 1) (by omega)
        have s1' : IntKind.i64.wrap ((j : Int) - 1) = (j : Int) - 1 := IntWalk.i64_in _ (by omega)
        clear hcs
        generalize (ntp ss (j - 1)).1 = kk at *
        go_wp2_with fail
        refine (HNX.out _ kk (hksz) (HR.out.keep hb.out)).mono ?_
        rintro e w1 ⟨b1, ⟨s1, z1⟩, rfl, hres, hb1⟩
        have O1 := Lib.hid (hO.out.keep hb1)
        have B1 := Lib.hid (hb.out.trans (hb1.mono hb.out.size))
        rw [HSN.out] at hres
        have hE : ntp ss j = (s1, z1) ∧ b1 = true := by
          rcases hres with ⟨_, _, h⟩ | ⟨h, h2⟩
          · cases h
          · exact ⟨Option.some.inj h2, h⟩
        obtain ⟨he, rfl⟩ := hE
        have HE := Lib.hid he
        clear hres he hb1
        go_wp2_with ((with_reducible show wpList _ _ _ (⟨some 44, _, _, _, _, _⟩ :: _) _ _); refine wpList_append_own _ rfl (.tmp 41) (.tmp 43) 41 rfl w.heap.size 37 i0 (.agg #[.string ⟨#[]⟩, .int .u64 0]) 2 24 Try.underlying41 HI.out.1 HI.out.2.1 HI.out.2.2.1 HI.out.2.2.2 rfl (by decide) _ j (pcells (ss.take j)) rfl (own_two O1.out (HTL.out j hj) _ _) ⟨w1.heap.size + 1, 0, none⟩ 1 1 [.string s1, .int .u64 z1] rfl rfl (two_news2 w1 _ s1 z1 _) (by intro u hu; simp at hu; rcases hu with rfl | rfl <;> rfl) (by unfold maxLen; omega) (by omega) (Nat.le_trans B1.out.size (two_below w1 _ _).size) ?_; intro v9 w9 hown9 hgrow9 _; have O9 := Lib.hid (ownp_next hown9 (by have := HLN.out; omega) HE.out); have B9 := Lib.hid ((B1.out.trans ((two_below w1 _ _).mono B1.out.size)).grown hgrow9 (Nat.le_trans B1.out.size (two_below w1 _ _).size) (fun k hk => (O1.out.lt k hk).1)); clear hown9 hgrow9)
        go_roundg (n - (j + 1))
        case measure => omega
        case rel => exact ⟨j + 1, by omega, Nat.le_refl _, O9, B9⟩
    · obtain rfl : j = n := by omega
      have hfin := hO.out
      rw [HF.out] at hfin
      have HFI := Lib.hid hfin
      clear hfin
      go_wp2
      go_ret
      exact ⟨_, rfl, HFI.out, hb.out⟩
end Go.Proofs.Ytnlghdkgejimpaa
