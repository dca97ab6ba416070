/- quote.Put returns a text's quote; nothing that was there has turned. Condition: a text of at most 2^43 bytes. -/
import Derived.Test.YtbghemndcndhpaaDoorQuoteSmall
import Derived.Lib.OthersKept
import Derived.Lib.Strings
import Derived.Lib.IndexBytes
import Derived.Laws.IdiomStrings
import Derived.WalkSpells
namespace Go.Proofs.YtbghemndcndhpaaDoor
open Go.RowKit

/-- 'string(b)' of a row that has the bytes l. -/
theorem conv_row {w : World} {B : Nat} {v : Value} {l : List UInt8} (h : Own w B v l) : (convert 61 9 v).run Tryd.prog w = .ok (.string ⟨l.toArray⟩) w := by
  rcases h.2 with ⟨rfl, hn⟩ | ⟨g, cap, cur, rfl, _⟩
  · have : l = [] := List.eq_nil_of_length_eq_zero hn
    subst this
    have := run_convert_bytes_string (P := Tryd.prog) w 61 9 5 none 0 0 Tryd.underlying61 Tryd.underlying5 Tryd.underlying9
    rw [this]
    rfl
  · refine run_convert_bytes_back (P := Tryd.prog) w 61 9 5 ⟨g, 0, none⟩ cap l Tryd.underlying61 Tryd.underlying5 Tryd.underlying9 (fun j hj => ?_)
    exact h.cells (g := g) rfl j _ (by simp [Lib.byteCells, hj])

theorem ext_drop (s : ByteArray) (pos : Nat) : (s.extract pos s.size).data.toList = s.data.toList.drop pos := by
  rw [ByteArray.data_extract]
  simp only [Array.toList_extract, List.extract_eq_take_drop]
  rw [List.take_of_length_le (by simp)]

theorem drop_ne {s : ByteArray} {pos : Nat} (h : pos < s.size) : s.data.toList.drop pos ≠ [] := by
  intro e
  have := congrArg List.length e
  simp at this
  omega

theorem gb_drop {s : ByteArray} {pos : Nat} (h : pos < s.size) : gb (s.data.toList.drop pos) 0 = (s[pos]'h).toNat := by
  unfold gb
  rw [List.getElem?_drop, Nat.add_zero, List.getElem?_eq_getElem (by simpa using h)]
  rfl

theorem q_len (l : List UInt8) (_h : l ≠ []) : (q l).length ≤ 6 := by
  unfold q
  split
  · simp
  · split
    · simp
    · split
      · have := (Lib.encodeRuneZ_length ((dec l).1 : Nat)).2
        simp [Lib.encodeRune]; omega
      · split <;> simp

/-- After so many bytes of the text: the bytes so far, and what is left. -/
def PutAt (s : ByteArray) (w wr : World) (B K : Nat) (vb : Value) (pos : Nat) (acc : List UInt8) : Prop :=
  Own wr B vb (34 :: acc) ∧ qs s.data.toList = acc ++ qs (s.data.toList.drop pos) ∧ wr.heap[K]? = some (.stringIter s pos) ∧ pos ≤ s.size ∧ Below B w wr ∧ acc.length ≤ 6 * pos

theorem own_not_iter {w : World} {B K : Nat} {v : Value} {l : List UInt8} {s : ByteArray} {pos : Nat} (h : Own w B v l) (hk : w.heap[K]? = some (.stringIter s pos)) : some K ≠ v.ownBlock := by
  intro e
  rcases h.2 with ⟨rfl, _⟩ | ⟨g, cap, cur, rfl, _, hg, _⟩
  · simp [Value.ownBlock] at e
  · simp [Value.ownBlock] at e
    subst e
    rw [hk] at hg
    cases hg

theorem own_iterAt {w : World} {B K : Nat} {v : Value} {l : List UInt8} {s : ByteArray} {pos : Nat} (h : Own w B v l) (hk : w.heap[K]? = some (.stringIter s pos)) (p' : Nat) : Own (w.iterAt K s p') B v l := by
  have hne := own_not_iter h hk
  refine ⟨h.1, ?_⟩
  rcases h.2 with hn | ⟨g, cap, cur, rfl, hb, hg, r⟩
  · exact Or.inl hn
  · exact Or.inr ⟨g, cap, cur, rfl, hb, by rw [Lib.iterAt_other w K g s p' (fun e => hne (by rw [e]; rfl))]; exact hg, r⟩

theorem put_step {s : ByteArray} {w wr w' : World} {B K pos : Nat} {vb v' : Value} {acc : List UInt8} (hp : pos < s.size) (hBK : B ≤ K) (h : PutAt s w wr B K vb pos acc)
    (hg : Grew (wr.iterAt K s (pos + (dec (s.data.toList.drop pos)).2)) w' B vb (.returned v') (34 :: acc ++ q (s.data.toList.drop pos))) (hB : B ≤ wr.heap.size) :
    PutAt s w w' B K v' (pos + (dec (s.data.toList.drop pos)).2) (acc ++ q (s.data.toList.drop pos)) := by
  obtain ⟨ho, hq, hk, hle, hb, hl⟩ := h
  obtain ⟨v1, e1, ho1, hg1⟩ := hg
  injection e1 with e1
  subst e1
  have hne := drop_ne hp
  have hw := width_le _ hne
  have hlen : (s.data.toList.drop pos).length = s.size - pos := by simp
  have hki := Lib.iterAt_heap wr K s pos (pos + (dec (s.data.toList.drop pos)).2) hk
  have hkl : K < wr.heap.size := lt_of_block hk
  refine ⟨ho1, ?_, ?_, by omega, ?_, ?_⟩
  · rw [hq, qs_cons hne, List.drop_drop, List.append_assoc]
  · rw [hg1.block K (by rw [Lib.iterAt_size]; exact hkl) (own_not_iter (own_iterAt ho hk _) hki)]
    exact hki
  · exact (Lib.below_iterAt hb hBK s _).grown hg1 (by rw [Lib.iterAt_size]; exact hB) (fun k hk => (ho.lt k hk).1)
  · have := q_len _ hne
    rw [List.length_append]; omega

theorem q_stray {l : List UInt8} (h : stray l = true) : q l = 92 :: 120 :: digs 2 (gb l 0) := by
  have := gb_lt l 0
  unfold q; rw [if_pos h, digs2, show gb l 0 / 16 % 16 = gb l 0 / 16 by omega]
theorem q_esc {l : List UInt8} (h : stray l = false) (h1 : (dec l).1 = 34 ∨ (dec l).1 = 92) : q l = [92, ((dec l).1).toUInt8] := by
  unfold q; rw [h, if_neg (by simp), if_pos h1]
theorem q_show {l : List UInt8} (h : stray l = false) (h1 : ¬ ((dec l).1 = 34 ∨ (dec l).1 = 92)) (h2 : shows (dec l).1 = true) : q l = Lib.encodeRune ((dec l).1 : Nat) := by
  unfold q; rw [h, if_neg (by simp), if_neg h1, if_pos h2]
theorem q_x {l : List UInt8} (h : stray l = false) (h1 : ¬ ((dec l).1 = 34 ∨ (dec l).1 = 92)) (h2 : shows (dec l).1 = false) (h3 : (dec l).1 < 128) : q l = 92 :: 120 :: digs 2 (dec l).1 := by
  unfold q; rw [h, if_neg (by simp), if_neg h1, h2, if_neg (by simp), if_pos h3, digs2]
theorem q_u {l : List UInt8} (h : stray l = false) (h1 : ¬ ((dec l).1 = 34 ∨ (dec l).1 = 92)) (h2 : shows (dec l).1 = false) (h3 : ¬ (dec l).1 < 128) : q l = 92 :: 117 :: digs 4 (dec l).1 := by
  unfold q; rw [h, if_neg (by simp), if_neg h1, h2, if_neg (by simp), if_neg h3, digs4]

theorem cells2 (w : World) (a b : Value) (t : TypeId) : ∀ j u, [a, b][j]? = some u → (w.alloc (.cells #[a, b] t)).cell? ((⟨w.heap.size, 0, none⟩ : Addr).add j) = some u := by
  intro j u hj
  match j, hj with
  | 0, hj => simp at hj; subst hj; simp [Addr.add]
  | 1, hj => simp at hj; subst hj; simp [Addr.add]
theorem cells1 (w : World) (a : Value) (t : TypeId) : ∀ j u, [a][j]? = some u → (w.alloc (.cells #[a] t)).cell? ((⟨w.heap.size, 0, none⟩ : Addr).add j) = some u := by
  intro j u hj
  match j, hj with
  | 0, hj => simp at hj; subst hj; simp [Addr.add]
theorem ones2 (k : IntKind) (a b : Int) : ∀ u ∈ [Value.int k a, Value.int k b], u.oneCell' = true := by
  intro u hu; simp at hu; rcases hu with rfl | rfl <;> rfl
theorem ones1 (k : IntKind) (a : Int) : ∀ u ∈ [Value.int k a], u.oneCell' = true := by
  intro u hu; simp at hu; subst hu; rfl

theorem stray_at (s : ByteArray) (pos : Nat) (w : World) :
    Calls Tryd.prog 40 #[.string (s.extract pos s.size), .int .i32 ((dec (s.data.toList.drop pos)).1 : Nat)] w fun e w' => e = .returned (.bool (stray (s.data.toList.drop pos))) ∧ w = w' := by
  have h := stray_any (s.extract pos s.size) (dec (s.data.toList.drop pos)).1 w
  rw [ext_drop] at h
  exact h

theorem append_grew {w w1 : World} {B : Nat} {v v' : Value} {n : Nat} {xs : List Value} {l : List UInt8} {o : Obj} (h : w1.ownsRow B 5 1 v' n xs) (e : xs = Lib.byteCells l) (hg : (w.alloc o).grownBy w1 v.ownBlock) : Grew w w1 B v (.returned v') l :=
  ⟨v', rfl, own_of h e, gb_alloc hg⟩

theorem rune_any (B : Nat) (v : Value) (l : List UInt8) (r : Nat) (w : World) (hr : r ≤ 1114111) (hl : l.length ≤ 70368744177664) (hown : Own w B v l) (hB : B ≤ w.heap.size) :
    Calls Tryd.prog 43 #[v, .int .i32 r] w fun e w' => Grew w w' B v e (l ++ Lib.encodeRune (r : Nat)) := by
  refine (Tryd.utf8_AppendRune_plain B v l.length (Lib.byteCells l) r (by omega) (by omega) w hown (by omega) hB).mono ?_
  rintro e w' ⟨v', rfl, h1, o, hg⟩
  exact append_grew h1 (by rw [Lib.byteCells_append, Lib.byteCells_encodeRune]) hg

set_option maxHeartbeats 4000000 in
set_option maxRecDepth 100000 in
theorem put_any (s : ByteArray) (w : World) (hs : s.size ≤ 8796093022208) :
    Calls Tryd.prog 35 #[.string s] w fun e w' => e = .returned (.string ⟨(put s.data.toList).toArray⟩) ∧ Below w.heap.size w w' := by
  obtain ⟨i0, hi, hz0, hz1, hz2⟩ := info_parts Tryd.info5q
  go_enter Tryd.func35, Tryd.ntmps35
  go_wp2
  go_loopw [3] (fun vb wr => ∃ pos acc, PutAt s w wr w.heap.size (w.heap.size + 1) vb pos acc) (fun _ wr => s.size - wr.iterPos (w.heap.size + 1))
  case atStart =>
    refine ⟨0, [], ?_, by simp, ?_, Nat.zero_le _, ((Below.refl _ _).alloc (Nat.le_refl _) _).alloc (by simp) _, by simp⟩
    · have h := World.ownsRow_lit (base := w.heap.size) (e := 5) (size := 1) w #[Value.int .u8 34] 1 (Nat.le_refl _) (by unfold maxLen; omega) rfl
      exact own_of (h.alloc _) (by simp [Lib.byteCells])
    · have h := World.iter_heap (w.alloc (Obj.cells #[Value.int .u8 34] 5)) s 0
      simpa using h
  case round =>
    obtain ⟨pos, acc, hrel⟩ := hrel
    by_cases hp : pos < s.size
    · have hk := hrel.2.2.1
      have hnx : ∀ ty, (Instr.next (.pointer (some ⟨w.heap.size + 1, 0, none⟩)) true ty).run Tryd.prog wr = _ := fun ty => Lib.run_next_any_at wr (w.heap.size + 1) s pos ty hk hp
      simp only [dec_eq] at hnx
      have hne := drop_ne hp
      have hw := width_le _ hne
      have hR := dec_lt (s.data.toList.drop pos)
      have hsz : (s.data.toList.drop pos).length = s.size - pos := by simp
      have hbw := hrel.2.2.2.2.1.size
      have hacc := hrel.2.2.2.2.2
      have ho := own_iterAt hrel.1 hk (pos + (dec (s.data.toList.drop pos)).2)
      have hits := Lib.iterAt_size wr (w.heap.size + 1) s (pos + (dec (s.data.toList.drop pos)).2)
      have hfin : ∀ w' v', Grew (wr.iterAt (w.heap.size + 1) s (pos + (dec (s.data.toList.drop pos)).2)) w' w.heap.size u3 (.returned v') (34 :: acc ++ q (s.data.toList.drop pos)) →
          (∃ p a, PutAt s w w' w.heap.size (w.heap.size + 1) v' p a) ∧ s.size - w'.iterPos (w.heap.size + 1) < s.size - wr.iterPos (w.heap.size + 1) := fun w' v' hg => by
        have hn := put_step hp (by omega) hrel hg hbw
        refine ⟨⟨_, _, hn⟩, ?_⟩
        have e1 : wr.iterPos (w.heap.size + 1) = pos := by unfold World.iterPos; rw [hk]
        have e2 : w'.iterPos (w.heap.size + 1) = pos + (dec (s.data.toList.drop pos)).2 := by unfold World.iterPos; rw [hn.2.2.1]
        rw [e1, e2]; omega
      have hgb := gb_drop hp
      have hst := fun w => stray_at s pos w
      clear hrel hk hsz hne
      generalize wr.iterAt (w.heap.size + 1) s (pos + (dec (s.data.toList.drop pos)).2) = W1 at *
      generalize s.data.toList.drop pos = L at *
      have HF := Lib.hid hfin
      have HG := Lib.hid hgb
      have HS := Lib.hid hst
      have hW1 : w.heap.size ≤ W1.heap.size := by omega
      have hb256 : ((s[pos]'hp).toNat : Int) < 256 := by have := (s[pos]'hp).toNat_lt; omega
      clear hfin hgb hst hits hbw hw
      cases hc0 : stray L with
      | true =>
        have hS1 := HS.out W1
        rw [hc0] at hS1
        have HS1 := Lib.hid hS1
        have HQ := Lib.hid (q_stray hc0)
        clear hc0 hS1
        generalize (dec L).1 = R at *
        go_wp2_with fail
        refine HS1.out.mono ?_
        rintro e w1 ⟨rfl, rfl⟩
        go_wp2_with fail
        refine (escape_any w.heap.size 2 (s[pos]'hp).toNat 120 _ _ _ (by omega) (by omega) (by omega) (by simp; omega) ho hW1).mono ?_
        rintro e w2 ⟨v2, rfl, ho2, hg2⟩
        have H := Lib.hid (HF.out w2 v2 ⟨v2, rfl, by rw [HQ.out, HG.out]; exact ho2, hg2⟩)
        clear ho2 hg2 ho
        go_wp2
        go_roundw
        case rel => exact H.out.1
        case measure => exact H.out.2
      | false =>
        have hS1 := HS.out W1
        rw [hc0] at hS1
        have HS1 := Lib.hid hS1
        have Q1 := Lib.hid (q_esc hc0)
        have Q2 := Lib.hid (q_show hc0)
        have Q3 := Lib.hid (q_x hc0)
        have Q4 := Lib.hid (q_u hc0)
        clear hc0 hS1
        generalize (dec L).1 = R at *
        by_cases e1 : R = 34 ∨ R = 92
        · have HQ := Lib.hid (Q1.out e1)
          have hRs : (R : Int) < 128 := by omega
          have d2 : ((R : Int) == 34) = false → ((R : Int) == 92) = true := by simp; omega
          have E1 := Lib.hid e1
          clear e1
          go_wp2_with fail
          refine HS1.out.mono ?_
          rintro e w1 ⟨rfl, rfl⟩
          rcases E1.out with e2 | e2
          all_goals
            first
              | (have d1 : ((R : Int) == 34) = true := by simp; omega)
              | (have d1 : ((R : Int) == 34) = false := by simp; omega)
            have d3 := d2
            clear d2
            first
              | (have d4 := d3 d1)
              | skip
            clear d3 e2
            have hl34 : (34 :: acc).length + 2 ≤ 140737488355328 := by simp; omega
            go_wp2_with (at_builtin; refine wpList_append_sep _ rfl (.tmp 36) (.tmp 39) 61 rfl w.heap.size 5 i0 (.int .u8 0) 1 1 Tryd.underlying61 hi hz0 hz1 hz2 rfl (by decide) _ _ _ rfl (ho.alloc _) ⟨W1.heap.size, 0, none⟩ 2 2 [Value.int .u8 92, Value.int .u8 (R : Nat)] rfl rfl (cells2 _ _ _ _) (ones2 _ _ _) (by unfold maxLen; omega) (by omega) (by simp; omega) ?_)
            intro v2 w2 hown2 hgrow2 _
            have H := Lib.hid (HF.out w2 v2 (append_grew hown2 (by rw [HQ.out, Lib.byteCells_append]; congr 1; simp [Lib.byteCells]; omega) hgrow2))
            clear hown2 hgrow2 ho
            go_wp2
            go_roundw
            case rel => exact H.out.1
            case measure => exact H.out.2
        · have d1 : ((R : Int) == 34) = false := by simp; omega
          have d2 : ((R : Int) == 92) = false := by simp; omega
          have E1 := Lib.hid e1
          clear e1
          cases hsh : shows R with
          | true =>
            have HQ := Lib.hid (Q2.out E1.out hsh)
            have hS2 := shows_any R W1
            rw [hsh] at hS2
            have HS2 := Lib.hid hS2
            clear hS2 hsh
            go_wp2_with fail
            refine HS1.out.mono ?_
            rintro e w1 ⟨rfl, rfl⟩
            go_wp2_with fail
            refine HS2.out.mono ?_
            rintro e w1 ⟨rfl, rfl⟩
            go_wp2_with fail
            refine (rune_any w.heap.size _ _ R _ hR (by simp; omega) ho hW1).mono ?_
            rintro e w2 ⟨v2, rfl, ho2, hg2⟩
            have H := Lib.hid (HF.out w2 v2 ⟨v2, rfl, by rw [HQ.out]; exact ho2, hg2⟩)
            clear ho2 hg2 ho
            go_wp2
            go_roundw
            case rel => exact H.out.1
            case measure => exact H.out.2
          | false =>
            have hS2 := shows_any R W1
            rw [hsh] at hS2
            have HS2 := Lib.hid hS2
            by_cases e3 : R < 128
            · have HQ := Lib.hid (Q3.out E1.out hsh e3)
              clear hS2 hsh
              go_wp2_with fail
              refine HS1.out.mono ?_
              rintro e w1 ⟨rfl, rfl⟩
              go_wp2_with fail
              refine HS2.out.mono ?_
              rintro e w1 ⟨rfl, rfl⟩
              go_wp2_with fail
              refine (escape_any w.heap.size 2 R 120 _ _ _ (by omega) (by omega) (by omega) (by simp; omega) ho hW1).mono ?_
              rintro e w2 ⟨v2, rfl, ho2, hg2⟩
              have H := Lib.hid (HF.out w2 v2 ⟨v2, rfl, by rw [HQ.out]; exact ho2, hg2⟩)
              clear ho2 hg2 ho
              go_wp2
              go_roundw
              case rel => exact H.out.1
              case measure => exact H.out.2
            · have HQ := Lib.hid (Q4.out E1.out hsh e3)
              clear hS2 hsh
              go_wp2_with fail
              refine HS1.out.mono ?_
              rintro e w1 ⟨rfl, rfl⟩
              go_wp2_with fail
              refine HS2.out.mono ?_
              rintro e w1 ⟨rfl, rfl⟩
              go_wp2_with fail
              refine (escape_any w.heap.size 4 R 117 _ _ _ (by omega) (by omega) (by omega) (by simp; omega) ho hW1).mono ?_
              rintro e w2 ⟨v2, rfl, ho2, hg2⟩
              have H := Lib.hid (HF.out w2 v2 ⟨v2, rfl, by rw [HQ.out]; exact ho2, hg2⟩)
              clear ho2 hg2 ho
              go_wp2
              go_roundw
              case rel => exact H.out.1
              case measure => exact H.out.2
    · obtain ⟨ho, hq, hk, hle, hb, hl⟩ := hrel
      have hnx : ∀ ty, (Instr.next (.pointer (some ⟨w.heap.size + 1, 0, none⟩)) true ty).run Tryd.prog wr = _ := fun ty => Lib.run_next_end_at wr (w.heap.size + 1) s pos ty hk hp
      have hbw := hb.size
      have hpe : pos = s.size := by omega
      have hdn : s.data.toList.drop pos = [] := by rw [hpe]; simp
      have hput : put s.data.toList = 34 :: acc ++ [34] := by unfold put; rw [hq, hdn, qs_nil]; simp
      have HP := Lib.hid hput
      have hl34 : (34 :: acc).length + 1 ≤ 140737488355328 := by simp; omega
      clear hq hk hdn hput hpe hp hle
      go_wp2_with (at_builtin; refine wpList_append_sep _ rfl (.tmp 54) (.tmp 55) 61 rfl w.heap.size 5 i0 (.int .u8 0) 1 1 Tryd.underlying61 hi hz0 hz1 hz2 rfl (by decide) _ _ _ rfl (ho.alloc _) ⟨wr.heap.size, 0, none⟩ 1 1 [Value.int .u8 34] rfl rfl (cells1 _ _ _) (ones1 _ _) (by unfold maxLen; omega) (by omega) (by simp; omega) ?_)
      intro v2 w2 hown2 hgrow2 _
      have ho2 : Own w2 w.heap.size v2 (34 :: acc ++ [34]) := own_of hown2 (by rw [Lib.byteCells_append]; congr 1)
      have hcv := conv_row ho2
      obtain ⟨ao, c, rfl⟩ := own_sl ho2
      have hb2 := hb.grown (gb_alloc hgrow2) hbw (fun k hk => (ho.lt k hk).1)
      clear hown2 hgrow2 ho2 ho
      generalize 34 :: acc ++ [34] = P at *
      go_wp2
      go_ret
      exact ⟨by rw [HP.out]; rfl, hb2⟩
end Go.Proofs.YtbghemndcndhpaaDoor
