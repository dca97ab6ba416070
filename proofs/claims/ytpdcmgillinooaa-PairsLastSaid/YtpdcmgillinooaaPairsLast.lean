/- The law PairsLast, walked: a map hangs on what each key was given last alone. Condition: the list reads as pairs. -/
import Derived.Test.YtpdcmgillinooaaPlayBase
import Derived.Test.YtpdcmgillinooaaLastFacts
namespace Go.Proofs.Ytpdcmgillinooaa
open Go.RowKit

/-- The map that is given its pairs from behind, the document's row beside it. -/
structure BackAt (w0 wr : World) (g : Nat) (v : Value) (qs pb : List (ByteArray × Int)) (m : Nat) : Prop where
  map : ∃ kv vv ss, MapAt wr w0.heap.size g kv vv ss ∧ Kept pb ss
  row : OwnP wr w0.heap.size v (foldP qs)
  behind : Behind qs m pb
  len : pb.length + m ≤ qs.length
  size : ∀ p ∈ pb, p.1.size ≤ 100
  below : Below w0.heap.size w0 wr

theorem BackAt.keep {w0 wr w' : World} {g m : Nat} {v : Value} {qs pb : List (ByteArray × Int)} (h : BackAt w0 wr g v qs pb m) (hb : Below wr.heap.size wr w') : BackAt w0 w' g v qs pb m := by
  obtain ⟨kv, vv, ss, hm, hk⟩ := h.map
  exact ⟨⟨kv, vv, ss, hm.keepB hb, hk⟩, h.row.keep hb, h.behind, h.len, h.size, h.below.trans (hb.mono h.below.size)⟩

theorem BackAt.skip {w0 wr : World} {g m : Nat} {v : Value} {qs pb : List (ByteArray × Int)} (h : BackAt w0 wr g v qs pb (m + 1)) (hi : m < qs.length) (hk : (getP pb (ntp qs m).1).2 = true) : BackAt w0 wr g v qs pb m :=
  ⟨h.map, h.row, h.behind.skip hi hk, by have := h.len; omega, h.size, h.below⟩

theorem BackAt.put {w0 wa w2 : World} {g m : Nat} {v kv vv kv' vv' : Value} {qs pb ss ss' : List (ByteArray × Int)} (h : BackAt w0 wa g v qs pb (m + 1)) (hi : m < qs.length) (hk : (getP pb (ntp qs m).1).2 = false) (hm : MapAt wa w0.heap.size g kv vv ss) (hk' : Kept (delP pb (ntp qs m).1 ++ [((ntp qs m).1, (ntp qs m).2)]) ss') (ht : Turned wa w2 w0.heap.size g kv vv kv' vv' ss') (hs : (ntp qs m).1.size ≤ 100) :
    BackAt w0 w2 g v qs (delP pb (ntp qs m).1 ++ [((ntp qs m).1, (ntp qs m).2)]) m := by
  have hb2 := ht.below hm h.below.size
  refine ⟨⟨kv', vv', ss', ht.map, hk'⟩, h.row.keepM hm ht.kept, h.behind.put hi hk, ?_, fun p hp => ?_, h.below.trans hb2⟩
  · have := delP_le pb (ntp qs m).1
    have := h.len
    rw [List.length_append]; simp; omega
  · rcases List.mem_append.1 hp with hp | hp
    · exact h.size p (delP_mem hp)
    · have : p = ((ntp qs m).1, (ntp qs m).2) := by simpa using hp
      rw [this]; exact hs

/-- The first loop: the document's row alone, the plain map beside it. -/
structure RowAtI (w0 wr : World) (g : Nat) (v : Value) (ps : List (ByteArray × Int)) : Prop where
  map : ∃ kv vv ss, MapAt wr w0.heap.size g kv vv ss ∧ Kept [] ss
  row : OwnP wr w0.heap.size v ps
  below : Below w0.heap.size w0 wr
theorem RowAtI.keep {w0 wr w' : World} {g : Nat} {v : Value} {ps : List (ByteArray × Int)} (h : RowAtI w0 wr g v ps) (hb : Below wr.heap.size wr w') : RowAtI w0 w' g v ps := by
  obtain ⟨kv, vv, ss, hm, hk⟩ := h.map
  exact ⟨⟨kv, vv, ss, hm.keepB hb, hk⟩, h.row.keep hb, h.below.trans (hb.mono h.below.size)⟩
theorem RowAtI.put {w0 wr w' : World} {g : Nat} {v v' : Value} {ps ps' : List (ByteArray × Int)} (h : RowAtI w0 wr g v ps) (hb : Below wr.heap.size wr w') (hO : OwnP w' wr.heap.size v' ps') : RowAtI w0 w' g v' ps' := by
  obtain ⟨kv, vv, ss, hm, hk⟩ := h.map
  exact ⟨⟨kv, vv, ss, hm.keepB hb, hk⟩, hO.base h.below.size, h.below.trans (hb.mono h.below.size)⟩

theorem foldP_sizes {qs : List (ByteArray × Int)} {i : Nat} (hi : i ≤ qs.length) (hs : ∀ j, j < i → (ntp qs j).1.size ≤ 100) : ∀ p ∈ foldP (qs.take i), p.1.size ≤ 100 := by
  induction i with
  | zero => simp [foldP]
  | succ i ih =>
    intro p hp
    rw [foldP_step qs i (by omega)] at hp
    rcases List.mem_append.1 hp with h | h
    · exact ih (by omega) (fun j hj => hs j (by omega)) p (delP_mem h)
    · have : p = ((ntp qs i).1, (ntp qs i).2) := by simpa using h
      rw [this]; exact hs i (by omega)

theorem all_sizes {qs : List (ByteArray × Int)} (hs : ∀ j, j < qs.length → (ntp qs j).1.size ≤ 100) : ∀ p ∈ qs, p.1.size ≤ 100 := by
  intro p hp
  obtain ⟨i, hi, rfl⟩ := List.getElem_of_mem hp
  have := hs i hi
  rwa [ntp_eq hi] at this

set_option maxHeartbeats 16000000 in
set_option maxRecDepth 100000 in
theorem pairsLast_any (v : Value) (qs : List (ByteArray × Int)) (w : World) (hr : RdP w v qs) (hz : ∀ p ∈ qs, p.1.size ≤ 9223372036854775807) :
    Calls Try.prog 4 #[v] w fun e w' => e = .returned (.bool true) ∧ Below w.heap.size w w' := by
  obtain ⟨ao, c, rfl⟩ := hr.open
  have hi0 := hr.len
  have hnc := hi0.2.1
  have hcb := hi0.2.2
  have HR := Lib.hid hr
  have HZ := Lib.hid (fun i (hi : i < qs.length) => (show (ntp qs i).1.size ≤ 9223372036854775807 by rw [ntp_eq hi]; exact hz _ (List.getElem_mem hi)))
  have HST := Lib.hid (foldP_step qs)
  have HFS := Lib.hid (fun i (hi : i ≤ qs.length) hs => foldP_sizes (qs := qs) hi hs)
  have HFL := Lib.hid (foldP_len qs)
  have HAS := Lib.hid (fun hs => all_sizes (qs := qs) hs)
  have HF : Hid (foldP (qs.take qs.length) = foldP qs) := Lib.hid (by rw [List.take_length])
  have HDN : Hid (foldP (qs.drop qs.length) = []) := Lib.hid (by rw [List.drop_length]; rfl)
  clear hr hi0 hz
  obtain ⟨n, hL⟩ : ∃ n, n = qs.length := ⟨_, rfl⟩
  rw [← hL] at HR hnc HZ HST HFS HFL HAS HF HDN ⊢
  have HLN := Lib.hid hL
  clear hL
  by_cases h60 : 60 < n
  · have HL := Lib.hid (lives_true w)
    have g60 : (60 : Int) < n := by omega
    go_enter Try.func4, Try.ntmps4
    go_wp2_with fail
    refine HL.out.mono ?_
    rintro e w2 ⟨rfl, hb2⟩
    go_wp2
    go_ret
    exact ⟨rfl, hb2⟩
  · have g60 : (n : Int) ≤ 60 := by omega
    have HNEW := Lib.hid (mnew_any (.slice none 0 0) [] w ⟨none, 0, rfl, Nat.le_refl _, by omega, fun h => absurd h (by simp)⟩ (by simp) (by simp))
    go_enter Try.func4, Try.ntmps4
    go_wp2_with fail
    refine HNEW.out.mono ?_
    rintro e w2 ⟨g, ss0, rfl, ⟨kv0, vv0, hm0⟩, hk0, hb2⟩
    have HP0 := Lib.hid (show RowAtI w w2 g (.slice none 0 0) [] from ⟨⟨kv0, vv0, ss0, hm0, hk0⟩, OwnP.nil _ _, hb2⟩)
    clear hm0 hk0 hb2 HNEW
    go_wp2
    go_loopw [3, 17] (fun sv si wr => ∃ i : Nat, si = .int .i64 i ∧ i ≤ n ∧ Hid (∀ j, j < i → (ntp qs j).1.size ≤ 100) ∧ Hid (RowAtI w wr g sv (foldP (qs.take i)))) (fun _ si _ => n - (intOf si).toNat)
    case atStart => exact ⟨0, rfl, Nat.zero_le _, Lib.hid (fun j hj => absurd hj (Nat.not_lt_zero _)), HP0⟩
    case round =>
      obtain ⟨i, rfl, hi, hall, hP⟩ := hrel
      by_cases hlt : i < n
      · obtain ⟨lg, lo, rfl, hcs⟩ := (HR.out.keep hP.out.below).at_ i hlt
        have hc1 := (hcs i hlt).1
        have hc2 := (hcs i hlt).2
        have hkz := HZ.out i hlt
        have hst := HST.out i (by have := HLN.out; omega)
        have HST2 := Lib.hid hst
        have HALL := Lib.hid (fun (hs : (ntp qs i).1.size ≤ 100) j (hj : j < i + 1) => (show (ntp qs j).1.size ≤ 100 by
          by_cases e : j = i
          · subst e; exact hs
          · exact hall.out j (by omega)))
        obtain ⟨ro, rc, hv⟩ := hP.out.row.open
        subst hv
        have hpl := HFL.out i (by have := HLN.out; omega)
        have A1 := (one_alloc wr (.cells #[.string (ntp qs i).1, .int .u64 (ntp qs i).2] 40)).2
        have P1 := Lib.hid (hP.out.keep A1)
        have HRP := Lib.hid (rput_any _ (ntp qs i).1 (ntp qs i).2 (foldP (qs.take i)) _ P1.out.row.rd (by omega))
        have HL := Lib.hid (lives_true (wr.alloc (.cells #[.string (ntp qs i).1, .int .u64 (ntp qs i).2] 40)))
        clear hcs hst A1
        generalize (foldP (qs.take i)).length = pn at *
        generalize hp : ntp qs i = p at *
        have HPP := Lib.hid hp
        clear hp
        obtain ⟨k, z⟩ := p
        by_cases hk : 100 < k.size
        · have gk : (100 : Int) < k.size := by omega
          go_wp2_with fail
          refine HL.out.mono ?_
          rintro e w3 ⟨rfl, hb3⟩
          go_wp2
          go_ret
          exact ⟨rfl, P1.out.below.trans (hb3.mono P1.out.below.size)⟩
        · have gk : (k.size : Int) ≤ 100 := by omega
          go_wp2_with fail
          refine HRP.out.mono ?_
          rintro e w3 ⟨v3, rfl, hO, hb⟩
          have HP3 := Lib.hid (P1.out.put hb hO)
          clear hO hb
          go_wp2
          go_roundw
          case rel => exact ⟨i + 1, by go_num, by omega, Lib.hid (HALL.out (by omega)), Lib.hid (by rw [HST2.out]; exact HP3.out)⟩
          case measure => simp [intOf]; omega
      · obtain rfl : i = n := by omega
        have hfin := hP.out
        rw [HF.out] at hfin
        have HB0 := Lib.hid (show BackAt w wr g u3 qs [] i from ⟨hfin.map, hfin.row, (fun j => by rw [HDN.out]), by have := HLN.out; simp; omega, (fun p hp => by cases hp), hfin.below⟩)
        have HSZ := Lib.hid (HAS.out hall.out)
        have HSZI := Lib.hid hall.out
        obtain ⟨ro, rn, rc, hv⟩ := hfin.row.open3
        subst hv
        clear hfin hP hall HST HFS HFL
        go_wp2
        go_loopw [7] (fun si wr => ∃ (m : Nat) (pb : List (ByteArray × Int)), si = .int .i64 ((m : Int) - 1) ∧ m ≤ i ∧ Hid (BackAt w wr g (.slice ro rn rc) qs pb m)) (fun si _ => (intOf si + 1).toNat)
        case atStart => exact ⟨i, [], rfl, Nat.le_refl _, HB0⟩
        case round =>
          obtain ⟨m, pb, rfl, hm, hB⟩ := hrel
          cases m with
          | zero =>
            obtain ⟨kv, vv, ss, hmap, hkp⟩ := hB.out.map
            have HMK := Lib.hid (And.intro hmap hkp)
            have hfq : FineP (foldP qs) := ⟨by
              have h1 := foldP_len qs qs.length (Nat.le_refl _)
              rw [List.take_length] at h1
              have := HLN.out; omega, fun p hp => by
              have h1 := foldP_mem qs qs.length (Nat.le_refl _) p (by rw [List.take_length]; exact hp)
              have := HSZ.out p h1
              omega⟩
            have HFQ := Lib.hid hfq
            have HFB := Lib.hid (fineP_of (i := qs.length) (by have := hB.out.len; omega) (by have := HLN.out; omega) hB.out.size)
            have HNEW := Lib.hid (mnew_any (.slice ao i c) qs wr (HR.out.keep hB.out.below) (by have := HLN.out; omega) (fun p hp => by have := HSZ.out p hp; omega))
            clear hmap hkp hfq
            go_wp2_with fail
            refine HNEW.out.mono ?_
            rintro e w3 ⟨g2, ss2, rfl, ⟨kv2, vv2, hm2⟩, hk2, hb3⟩
            obtain rfl : ss = ss2 := hB.out.behind.one HMK.out.2 hk2
            have HK2 := Lib.hid hk2
            have B3 := Lib.hid (hB.out.keep hb3)
            have M3 := Lib.hid (HMK.out.1.keepB hb3)
            have HA := Lib.hid (mall_any _ g2 kv2 vv2 ss w3 hm2 ((HFQ.out.fine hk2).len))
            clear hm2 hk2 hb3 HNEW
            go_wp2_with fail
            refine HA.out.mono ?_
            rintro e w4 ⟨va, rfl, hO4, hb4⟩
            have B4 := Lib.hid (B3.out.keep hb4)
            have M4 := Lib.hid (M3.out.keepB hb4)
            have R4 := Lib.hid hO4.rd
            obtain ⟨ao4, n4, c4, rfl⟩ := hO4.open3
            have HRA := Lib.hid (rall_any _ (foldP qs) ss w4 B4.out.row.rd HK2.out.same HK2.out.rise HK2.out.len (by have := HFQ.out.len; omega) HFQ.out.size)
            clear hO4 hb4 HA
            go_wp2_with fail
            refine HRA.out.mono ?_
            rintro e w5 ⟨vb, rfl, hO5, hb5⟩
            have B5 := Lib.hid (B4.out.keep hb5)
            have M5 := Lib.hid (M4.out.keepB hb5)
            have HS := Lib.hid (rsame_true _ _ ss w5 (R4.out.keep hb5) hO5.rd)
            obtain ⟨ao5, n5, c5, rfl⟩ := hO5.open3
            clear hO5 hb5 HRA
            go_wp2_with fail
            refine HS.out.mono ?_
            rintro e w6 ⟨rfl, hd6⟩
            have B6 := Lib.hid (B5.out.keep (drew_below hd6 _))
            have M6 := Lib.hid (M5.out.keepB (drew_below hd6 _))
            have HA := Lib.hid (mall_any _ g kv vv ss w6 M6.out ((HFQ.out.fine HK2.out).len))
            clear hd6 HS
            go_wp2_with fail
            refine HA.out.mono ?_
            rintro e w7 ⟨vc, rfl, hO7, hb7⟩
            have B7 := Lib.hid (B6.out.keep hb7)
            have R7 := Lib.hid hO7.rd
            obtain ⟨ao7, n7, c7, rfl⟩ := hO7.open3
            have HRA := Lib.hid (rall_any _ (foldP qs) ss w7 B7.out.row.rd HK2.out.same HK2.out.rise HK2.out.len (by have := HFQ.out.len; omega) HFQ.out.size)
            clear hO7 hb7 HA
            go_wp2_with fail
            refine HRA.out.mono ?_
            rintro e w8 ⟨vd, rfl, hO8, hb8⟩
            have B8 := Lib.hid (B7.out.keep hb8)
            have HS := Lib.hid (rsame_true _ _ ss w8 (R7.out.keep hb8) hO8.rd)
            obtain ⟨ao8, n8, c8, rfl⟩ := hO8.open3
            clear hO8 hb8 HRA
            go_wp2_with fail
            refine HS.out.mono ?_
            rintro e w9 ⟨rfl, hd9⟩
            have B9 := Lib.hid (B8.out.keep (drew_below hd9 _))
            have HL := Lib.hid (lives_true w9)
            clear hd9 HS
            go_wp2_with fail
            refine HL.out.mono ?_
            rintro e w10 ⟨rfl, hb10⟩
            go_wp2
            go_ret
            exact ⟨rfl, B9.out.below.trans (hb10.mono B9.out.below.size)⟩
          | succ m =>
            rw [show (((m + 1 : Nat) : Int) - 1) = (m : Int) by omega]
            have hlt : m < i := by omega
            have hlq : m < qs.length := by have := HLN.out; omega
            obtain ⟨lg, lo, rfl, hcs⟩ := (HR.out.keep hB.out.below).at_ m hlt
            have hc1 := (hcs m hlt).1
            have hc2 := (hcs m hlt).2
            have hks := HSZI.out m hlt
            obtain ⟨kv, vv, ss, hmap, hkp⟩ := hB.out.map
            have hfine := (fineP_of (i := qs.length) (by have := hB.out.len; omega) (by have := HLN.out; omega) hB.out.size)
            have HG := Lib.hid (mget_any _ g kv vv (ntp qs m).1 pb ss _ hmap (hfine.fine hkp) (by omega) hkp)
            have HMK := Lib.hid (And.intro hmap hkp)
            have HFI := Lib.hid hfine
            have HKS := Lib.hid hks
            have HLQ := Lib.hid hlq
            clear hcs hmap hkp hfine hks hlq
            have g1 : (m : Int) < i := by omega
            cases hok : (getP pb (ntp qs m).1).2 with
            | true =>
              have HSK := Lib.hid (hB.out.skip HLQ.out hok)
              rw [hok] at HG
              clear hok
              generalize (getP pb (ntp qs m).1).1 = zz at *
              generalize ntp qs m = p at *
              go_wp2_with fail
              refine HG.out.mono ?_
              rintro e w3 ⟨rfl, hb⟩
              have HB3 := Lib.hid (HSK.out.keep hb)
              clear hb
              go_wp2
              go_roundw
              case rel => exact ⟨m, pb, rfl, by omega, HB3⟩
              case measure => simp [intOf]
            | false =>
              rw [hok] at HG
              have HOK := Lib.hid hok
              clear hok
              generalize (getP pb (ntp qs m).1).1 = zz at *
              go_wp2_with fail
              refine HG.out.mono ?_
              rintro e w3 ⟨rfl, hb⟩
              have HB3 := Lib.hid (hB.out.keep hb)
              have hm3 := HMK.out.1.keepB hb
              have HPUT : Hid (∀ q, Calls Try.prog 10 #[.pointer (some ⟨g, 0, none⟩), .string (ntp qs m).1, .int .u64 (ntp qs m).2] (w3.drewN q) fun e w' => ∃ (z : Int) (b : Bool), e = .returned (.tuple #[.int .u64 z, .bool b]) ∧ BackAt w w' g (.slice ro rn rc) qs (delP pb (ntp qs m).1 ++ [((ntp qs m).1, (ntp qs m).2)]) m) := Lib.hid (fun q => by
                have hb3 := HB3.out.keep (drew_below ⟨q, rfl⟩ _ : Below w3.heap.size w3 (w3.drewN q))
                have hm3 := (HMK.out.1.keepB hb).keepB (drew_below ⟨q, rfl⟩ _ : Below w3.heap.size w3 (w3.drewN q))
                refine (mput_any _ g kv vv (ntp qs m).1 (ntp qs m).2 pb ss (w3.drewN q) hm3 hb3.below.size (HFI.out.fine HMK.out.2) (by have := HKS.out; omega) HMK.out.2).mono ?_
                rintro e w5 ⟨kv5, vv5, ss5, rfl, hk5, ht5⟩
                exact ⟨_, _, rfl, hb3.put HLQ.out HOK.out hm3 hk5 ht5 HKS.out⟩)
              have HC : Hid (∀ W, Below w.heap.size w W → W.cell? ⟨lg, lo + m * 2, none⟩ = some (.string (ntp qs m).1) ∧ W.cell? ⟨lg, lo + m * 2 + 1, none⟩ = some (.int .u64 (ntp qs m).2)) := Lib.hid (fun W h => by
                obtain ⟨lg2, lo2, hlg, hcs⟩ := (HR.out.keep h).at_ m hlt
                injection hlg with hlg
                injection hlg with e1 e2
                subst e1 e2
                exact hcs m hlt)
              clear hb hc1 hc2
              go_wp2
              have hS0 := HC.out w3.drew HB3.out.below.drew
              go_region_held_law (fun w' => w'.cell? ⟨lg, lo + m * 2, none⟩ = some (.string (ntp qs m).1) ∧ w'.cell? ⟨lg, lo + m * 2 + 1, none⟩ = some (.int .u64 (ntp qs m).2)) (first | exact hS0 | exact HC.out w5 hB5.below | assumption)
                (first | (go_at_call 10; refine (HPUT.out 1).mono ?_; rintro e w5 ⟨z5, b5, rfl, hB5⟩))
              have HB5 := Lib.hid hB5
              clear hB5
              go_wp2
              go_roundw
              case rel => exact ⟨m, _, rfl, by omega, HB5⟩
              case measure => simp [intOf]
end Go.Proofs.Ytpdcmgillinooaa
