/- slices.Clone of a row of changes. Condition: there are few. edit.Changes: all changes, their nodes cloned. Condition: there are few, their rows fit. edit.Begin, Set, Clear, View, of an edit that a call began. Condition: the cell's number is one, the node's rows fit. edit.At, of an edit that a call began. No condition. edit.Spare, of an edit that a call began. Condition: there are few spares. -/
import Derived.Test.YtdbklklmpnlinaaPg8
import Derived.Deep.AppendLies
import Derived.Laws.AppendOwnNone
import Derived.Test.YtdbklklmpnlinaaNodeClone2
import Derived.Test.YtdbklklmpnlinaaPg9
namespace Go.Proofs.Ytdbklklmpnlinaa
open Go.RowKit Go.Maps

/-- A row of the call's own has cells that stand. -/
theorem CsAt.news {P : Value → Value → Value → Ch → Prop} {w : World} {g o n c : Nat} {cs : List Ch} (h : CsAt P w (.slice (some ⟨g, o, none⟩) n c) cs) : ∃ ls, All2 (CL P) ls cs ∧ ls.flatten.length = cs.length * 14 ∧ (∀ u ∈ ls.flatten, u.oneCell' = true) ∧ ∀ j u, ls.flatten[j]? = some u → w.cell? ((⟨g, o, none⟩ : Addr).add j) = some u := by
  obtain ⟨ao', c', e, h1, h2, h3⟩ := h
  injection e with e1 e2 e3
  subst e2
  rcases Nat.eq_zero_or_pos cs.length with hz | hp
  · have : cs = [] := List.eq_nil_of_length_eq_zero hz
    subst this
    exact ⟨[], .nil, rfl, (fun u hu => by cases hu), (fun j u hu => by cases hu)⟩
  · obtain ⟨g', o', e4, hc⟩ := h3 hp
    rw [← e1] at e4
    injection e4 with e4
    injection e4 with e5 e6 _
    subst e5 e6
    have mk : ∀ n, n ≤ cs.length → ∃ ls, All2 (CL P) ls (cs.take n) ∧ ∀ j i, j < n → i < 14 → ls.flatten[j * 14 + i]? = w.cell? ⟨g, o + j * 14 + i, none⟩ := by
      intro n
      induction n with
      | zero => exact fun _ => ⟨[], .nil, fun j i h => absurd h (Nat.not_lt_zero _)⟩
      | succ n ih =>
        intro hn
        obtain ⟨ls, hls, hat⟩ := ih (by omega)
        obtain ⟨l, hl, hcc⟩ := hc n (by omega)
        have hfl := (cs_flat hls).1
        rw [List.length_take, Nat.min_eq_left (by omega)] at hfl
        refine ⟨ls ++ [l], ?_, fun j i hj hi => ?_⟩
        · rw [List.take_succ_eq_append_getElem (by omega), ← cAt_eq (by omega)]
          exact hls.append (.cons hl .nil)
        · rw [List.flatten_append, List.flatten_cons, List.flatten_nil, List.append_nil]
          by_cases e : j = n
          · subst e
            rw [List.getElem?_append_right (by omega), hfl, show j * 14 + i - j * 14 = i by omega]
            exact (hcc i hi).symm
          · rw [List.getElem?_append_left (by rw [hfl]; omega)]
            exact hat j i (by omega) hi
    obtain ⟨ls, hls, hat⟩ := mk cs.length (Nat.le_refl _)
    rw [List.take_length] at hls
    have hfl := cs_flat hls
    refine ⟨ls, hls, hfl.1, hfl.2.2.1, fun j u hu => ?_⟩
    have hj : j < cs.length * 14 := by rw [← hfl.1]; exact (List.getElem?_eq_some_iff.1 hu).1
    have h9 := hat (j / 14) (j % 14) (by omega) (Nat.mod_lt _ (by decide))
    rw [show j / 14 * 14 + j % 14 = j by omega] at h9
    have hjj : o + j / 14 * 14 + j % 14 = o + j := by omega
    have hadd : (⟨g, o, none⟩ : Addr).add j = ⟨g, o + j / 14 * 14 + j % 14, none⟩ := by
      rw [hjj]
      unfold Addr.add
      split <;> simp_all
    rw [hadd, ← h9]
    exact hu
set_option maxHeartbeats 1000000 in
set_option maxRecDepth 100000 in
theorem clone52_any (ao : Option Addr) (n c : Nat) (cs : List Ch) (P : Value → Value → Value → Ch → Prop) (w : World) (h : CsAt P w (.slice ao n c) cs) (hnil : ao = none → n = 0 ∧ c = 0) (hsp : ∀ a, ao = some a → ∃ g o, a = ⟨g, o, none⟩) (hn : n ≤ 1000000) :
    Calls Try.prog 52 #[.slice ao n c] w fun e w' => ∃ v, e = .returned v ∧ CsR P w' w.heap.size v cs ∧ Below w.heap.size w w' := by
  have q22 : ∀ (w : World) (a : Option Addr) (n c n' c' : Nat), (binOp .eql 66 (.slice a n c) (.slice none n' c')).run Try.prog w = .ok (.bool a.isNone) w := fun w a n c n' c' => Lib.run_eql_slice_nil w _ _ a n c n' c' Try.underlying66
  have u22 : ∀ w, Sem.run Try.prog (underlying 66) w = .ok (TypeDesc.slice 97) w := run_underlying Try.underlying66
  have hl := h.len.1
  cases ao with
  | none =>
    obtain ⟨rfl, rfl⟩ := hnil rfl
    have : cs = [] := List.eq_nil_of_length_eq_zero hl.symm
    subst this
    clear h hnil hsp hl
    go_enter Try.func52, Try.ntmps52
    go_wp2
    go_ret
    exact ⟨_, rfl, CsR.nil _ _ _, Below.refl _ _⟩
  | some ad =>
    obtain ⟨g, o, rfl⟩ := hsp ad rfl
    obtain ⟨ls, hls, hfl, hones, hnews⟩ := (h.keep (boxed_below w (.cells #[] 97))).news
    have HLS := Lib.hid (show _ ∧ _ ∧ _ ∧ _ from ⟨hls, hfl, hones, hnews⟩)
    obtain ⟨i0, hi, hz0, hz1, hz2⟩ := info_parts chInfo
    have HIN := Lib.hid (show _ ∧ _ ∧ _ ∧ _ from ⟨hi, hz0, hz1, hz2⟩)
    have HL := Lib.hid hl
    clear h hnil hsp hl hls hfl hones hnews hi hz0 hz1 hz2
    go_enter Try.func52, Try.ntmps52
    go_wp2_with (at_builtin; refine wpList_append_own _ rfl _ _ 66 rfl w.heap.size 97 i0 (.agg #[.int .i64 0, .int .i64 0, .int .u64 0, .int .u64 0, .bool false, .bool false, .int .i64 0, .string ⟨#[]⟩, .string ⟨#[]⟩, .bool false, .int .i64 0, .slice none 0 0, .slice none 0 0, .slice none 0 0]) 14 168 Try.underlying66 HIN.out.1 HIN.out.2.1 HIN.out.2.2.1 HIN.out.2.2.2 rfl (by decide) _ _ _ rfl (World.ownsRow_made w #[] 0 (Nat.le_refl _) (Nat.zero_le _) rfl) ⟨g, o, none⟩ n c ls.flatten rfl (by rw [HLS.out.2.1, HL.out]) HLS.out.2.2.2 HLS.out.2.2.1 (by unfold maxLen; omega) (by omega) (by simp) ?_)
    intro v' w1 hown hgrow _
    have HO := Lib.hid (show w1.ownsRow w.heap.size 97 14 v' cs.length ls.flatten from by rw [← HL.out]; simpa using hown)
    have HG := Lib.hid (((Below.refl w.heap.size w).alloc (Nat.le_refl _) (.cells #[] 97)).grown hgrow (by simp) (by intro k hk; simp [Value.ownBlock] at hk; omega))
    clear hown hgrow
    go_wp2
    go_ret
    exact ⟨v', rfl, ⟨ls, HLS.out.1, HO.out⟩, HG.out⟩
end Go.Proofs.Ytdbklklmpnlinaa

namespace Go.Proofs.Ytdbklklmpnlinaa
open Go.RowKit Go.Maps

/-- Eight cells written, one behind the other. -/
def cur8 (cur : Array Value) (p : Nat) (v0 v1 v2 v3 v4 v5 v6 v7 : Value) : Array Value :=
  (((((((cur.setIfInBounds p v0).setIfInBounds (p + 1) v1).setIfInBounds (p + 2) v2).setIfInBounds (p + 3) v3).setIfInBounds (p + 4) v4).setIfInBounds (p + 5) v5).setIfInBounds (p + 6) v6).setIfInBounds (p + 7) v7
theorem cur8_other {cur : Array Value} {p q : Nat} {v0 v1 v2 v3 v4 v5 v6 v7 : Value} (h : q < p ∨ p + 8 ≤ q) : (cur8 cur p v0 v1 v2 v3 v4 v5 v6 v7)[q]? = cur[q]? := by
  unfold cur8
  rw [Array.getElem?_setIfInBounds_ne (by omega), Array.getElem?_setIfInBounds_ne (by omega), Array.getElem?_setIfInBounds_ne (by omega), Array.getElem?_setIfInBounds_ne (by omega), Array.getElem?_setIfInBounds_ne (by omega), Array.getElem?_setIfInBounds_ne (by omega), Array.getElem?_setIfInBounds_ne (by omega), Array.getElem?_setIfInBounds_ne (by omega)]
theorem cur8_at {cur : Array Value} {p t : Nat} {v0 v1 v2 v3 v4 v5 v6 v7 : Value} (hs : p + 8 ≤ cur.size) (ht : t < 8) : (cur8 cur p v0 v1 v2 v3 v4 v5 v6 v7)[p + t]? = [v0, v1, v2, v3, v4, v5, v6, v7][t]? := by
  unfold cur8
  rcases (show t = 0 ∨ t = 1 ∨ t = 2 ∨ t = 3 ∨ t = 4 ∨ t = 5 ∨ t = 6 ∨ t = 7 by omega) with rfl | rfl | rfl | rfl | rfl | rfl | rfl | rfl
  all_goals simp [Array.getElem?_setIfInBounds]
  all_goals omega
/-- A row of changes that the call made: in a block of changes. -/
structure RowC (w : World) (B g n c : Nat) (cs : List Ch) : Prop where
  at_ : CsAt (PC w B) w (.slice (some ⟨g, 0, none⟩) n c) cs
  blk : ∃ cur, w.heap[g]? = some (.cells cur 97 (0, 0)) ∧ n * 14 ≤ cur.size
theorem RowC.keep {w w' : World} {B g n c : Nat} {cs : List Ch} (h : RowC w B g n c cs) (hb : Below w.heap.size w w') : RowC w' B g n c cs := by
  obtain ⟨cur, h1, h2⟩ := h.blk
  refine ⟨?_, cur, (hb.block g (lt_of_block h1)).trans h1, h2⟩
  obtain ⟨ao, c', e, q1, q2, q3⟩ := CsAt.keep h.at_ hb
  refine ⟨ao, c', e, q1, q2, fun hp => ?_⟩
  obtain ⟨g', o, e2, hc⟩ := q3 hp
  exact ⟨g', o, e2, fun j hj => (hc j hj).imp fun l hl => ⟨hl.1.mono (fun _ _ _ hp => NdO.keep hp hb), hl.2⟩⟩
theorem RowC.wr {w : World} {B g n c i : Nat} {cs : List Ch} {kv vv cv : Value} (h : RowC w B g n c cs) (hi : i < n) {ak av ac : Option Addr} {nk ck nv cw nn cn : Nat} (e1 : kv = .slice ak nk ck) (e2 : vv = .slice av nv cw) (e3 : cv = .slice ac nn cn) (hn : NdO w B kv vv cv (cAt cs i).n) {w' : World} (hw : w'.heap[g]? = ((((((((w.setCell ⟨g, i * 14 + 6, none⟩ (.int .i64 (cAt cs i).n.lv)).setCell ⟨g, i * 14 + 6 + 1, none⟩ (.string (cAt cs i).n.lo)).setCell ⟨g, i * 14 + 6 + 2, none⟩ (.string (cAt cs i).n.hi)).setCell ⟨g, i * 14 + 6 + 3, none⟩ (.bool (cAt cs i).n.la)).setCell ⟨g, i * 14 + 6 + 4, none⟩ (.int .i64 (cAt cs i).n.nx)).setCell ⟨g, i * 14 + 6 + 5, none⟩ kv).setCell ⟨g, i * 14 + 6 + 6, none⟩ vv).setCell ⟨g, i * 14 + 6 + 7, none⟩ cv).heap[g]?) (ht : Turn (fun j => j = g) w w') : RowC w' B g n c cs := by
  obtain ⟨cur, h1, h2⟩ := h.blk
  have hcur : w'.heap[g]? = some (.cells (cur8 cur (i * 14 + 6) (.int .i64 (cAt cs i).n.lv) (.string (cAt cs i).n.lo) (.string (cAt cs i).n.hi) (.bool (cAt cs i).n.la) (.int .i64 (cAt cs i).n.nx) kv vv cv) 97 (0, 0)) := by
    rw [hw]
    exact heap_setCell_same _ g _ _ _ _ (heap_setCell_same _ g _ _ _ _ (heap_setCell_same _ g _ _ _ _ (heap_setCell_same _ g _ _ _ _ (heap_setCell_same _ g _ _ _ _ (heap_setCell_same _ g _ _ _ _ (heap_setCell_same _ g _ _ _ _ (heap_setCell_same _ g _ _ _ _ h1)))))))
  have hoff : Off w (fun j => j = g) := fun g2 c2 t e hg => by
    rw [show g2 = g from e, h1] at hg
    injection hg with hg
    injection hg with _ e2 _
    rw [← e2]; decide
  have hin : i * 14 + 14 ≤ cur.size := by omega
  obtain ⟨ao, c', e, q1, q2, q3⟩ := h.at_
  refine ⟨⟨ao, c', e, q1, q2, fun hp => ?_⟩, _, hcur, by unfold cur8; simpa using h2⟩
  obtain ⟨g', o, e2', hc⟩ := q3 hp
  injection e with ee1 ee2 ee3
  rw [← ee1] at e2'
  injection e2' with e2'
  injection e2' with eg eo _
  subst eg
  subst eo
  refine ⟨g, 0, ee1.symm, fun j hj => ?_⟩
  obtain ⟨l, ⟨ak1, nk1, ck1, av1, nv1, cv1, ac1, nn1, cn1, rfl, hP⟩, hcc⟩ := hc j hj
  have old : ∀ q, w.cell? ⟨g, q, none⟩ = cur[q]? := fun q => by simp [World.cell?, h1]
  have new : ∀ q, w'.cell? ⟨g, q, none⟩ = (cur8 cur (i * 14 + 6) (.int .i64 (cAt cs i).n.lv) (.string (cAt cs i).n.lo) (.string (cAt cs i).n.hi) (.bool (cAt cs i).n.la) (.int .i64 (cAt cs i).n.nx) kv vv cv)[q]? := fun q => by simp [World.cell?, hcur]
  by_cases hji : j = i
  · subst hji
    subst e1 e2 e3
    refine ⟨_, ⟨ak, nk, ck, av, nv, cw, ac, nn, cn, rfl, NdO.turn hn hoff ht⟩, fun q hq => ?_⟩
    rw [new]
    by_cases h6 : q < 6
    · rw [cur8_other (by omega), ← old, hcc q hq]
      rcases (show q = 0 ∨ q = 1 ∨ q = 2 ∨ q = 3 ∨ q = 4 ∨ q = 5 by omega) with rfl | rfl | rfl | rfl | rfl | rfl <;> rfl
    · obtain ⟨t, rfl⟩ : ∃ t, q = 6 + t := ⟨q - 6, by omega⟩
      rw [show 0 + j * 14 + (6 + t) = j * 14 + 6 + t by omega, cur8_at (by omega) (by omega)]
      rcases (show t = 0 ∨ t = 1 ∨ t = 2 ∨ t = 3 ∨ t = 4 ∨ t = 5 ∨ t = 6 ∨ t = 7 by omega) with rfl | rfl | rfl | rfl | rfl | rfl | rfl | rfl <;> rfl
  · refine ⟨_, ⟨ak1, nk1, ck1, av1, nv1, cv1, ac1, nn1, cn1, rfl, NdO.turn hP hoff ht⟩, fun q hq => ?_⟩
    rw [new, cur8_other (by omega), ← old, hcc q hq]
theorem turn_w8 (w : World) (g p : Nat) (v0 v1 v2 v3 v4 v5 v6 v7 : Value) : Turn (fun j => j = g) w ((((((((w.setCell ⟨g, p, none⟩ v0).setCell ⟨g, p + 1, none⟩ v1).setCell ⟨g, p + 2, none⟩ v2).setCell ⟨g, p + 3, none⟩ v3).setCell ⟨g, p + 4, none⟩ v4).setCell ⟨g, p + 5, none⟩ v5).setCell ⟨g, p + 6, none⟩ v6).setCell ⟨g, p + 7, none⟩ v7) :=
  Turn.setCell (S := fun j => j = g) (Turn.setCell (S := fun j => j = g) (Turn.setCell (S := fun j => j = g) (Turn.setCell (S := fun j => j = g) (Turn.setCell (S := fun j => j = g) (Turn.setCell (S := fun j => j = g) (Turn.setCell (S := fun j => j = g) (Turn.setCell (S := fun j => j = g) (Turn.refl (fun j => j = g) w) (Or.inl rfl) v0) (Or.inl rfl) v1) (Or.inl rfl) v2) (Or.inl rfl) v3) (Or.inl rfl) v4) (Or.inl rfl) v5) (Or.inl rfl) v6) (Or.inl rfl) v7
theorem RowC.wr2 {w : World} {B g n c i : Nat} {cs : List Ch} {x : Nod} {ak av ac : Option Addr} {nk ck nv cw nn cn : Nat} (h : RowC w B g n c cs) (hi : i < n) (hx : x = (cAt cs i).n) (hn : NdO w B (.slice ak nk ck) (.slice av nv cw) (.slice ac nn cn) x) : RowC ((((((((w.setCell ⟨g, i * 14 + 6, none⟩ (.int .i64 x.lv)).setCell ⟨g, i * 14 + 6 + 1, none⟩ (.string x.lo)).setCell ⟨g, i * 14 + 6 + 2, none⟩ (.string x.hi)).setCell ⟨g, i * 14 + 6 + 3, none⟩ (.bool x.la)).setCell ⟨g, i * 14 + 6 + 4, none⟩ (.int .i64 x.nx)).setCell ⟨g, i * 14 + 6 + 5, none⟩ (.slice ak nk ck)).setCell ⟨g, i * 14 + 6 + 6, none⟩ (.slice av nv cw)).setCell ⟨g, i * 14 + 6 + 7, none⟩ (.slice ac nn cn)) B g n c cs := by
  subst hx
  exact h.wr hi rfl rfl rfl hn rfl (turn_w8 w g _ _ _ _ _ _ _ _ _)
section
variable {B E A b N nc cc : Nat} {ao : Option Addr} {tv sv : Value} {ks : List Kn} {ss ts : List (Int × Int)} {k m : Int} {cs : List Ch}
theorem CsR.rowC {P : Value → Value → Value → Ch → Prop} {w : World} {C : Nat} {v : Value} (h : CsR P w C v cs) (hP : ∀ a b c x, P a b c x → PC w B a b c x) : (v = .slice none 0 0 ∧ cs = []) ∨ ∃ g c, v = .slice (some ⟨g, 0, none⟩) cs.length c ∧ C ≤ g ∧ RowC w B g cs.length c cs := by
  have hat := (h.mono hP).ks
  obtain ⟨ls, h1, h2⟩ := h
  rcases h2.2 with ⟨rfl, hz⟩ | ⟨g, cap, cur, rfl, hbg, hg, hc1, hc2, hc3, hc4⟩
  · exact Or.inl ⟨rfl, List.eq_nil_of_length_eq_zero hz⟩
  · refine Or.inr ⟨g, cap, rfl, hbg, hat, cur, hg, ?_⟩
    rw [hc3]
    exact Nat.mul_le_mul_right 14 hc1
set_option maxHeartbeats 4000000 in
set_option maxRecDepth 100000 in
theorem changes_any (w : World) (h : ES w B E A b (.slice ao nc cc) tv sv N ks ss k m cs ts) (hn : cs.length ≤ 100000) :
    Calls Try.prog 22 #[.pointer (some ⟨E, 0, none⟩)] w fun e w' => ∃ (ao' : Option Addr) (n' c' : Nat), e = .returned (.slice ao' n' c') ∧ CsAt (PC w' B) w' (.slice ao' n' c') cs ∧ (∀ a, ao' = some a → ∃ g, a = ⟨g, 0, none⟩ ∧ w.heap.size ≤ g) ∧ (ao' = none → n' = 0 ∧ c' = 0) ∧ Below w.heap.size w w' := by
  have HI := Lib.hid (begun_yes E A _ tv w h.ed)
  have c1 : w.cell? ⟨E, 1, none⟩ = some (.slice ao nc cc) := h.ed.cell 1 rfl
  have hlen := h.ch.ks.len.1
  have HCL := Lib.hid (clone52_any ao nc cc cs _ w h.ch.ks (fun e => by
    obtain ⟨_, _, h2⟩ := h.ch
    rcases h2.2 with ⟨e2, _⟩ | ⟨g, cap, cur, e2, _⟩
    · injection e2 with _ e3 e4; exact ⟨e3, e4⟩
    · injection e2 with e3 _ _; rw [e] at e3; cases e3) (fun a e => by
    obtain ⟨_, _, h2⟩ := h.ch
    rcases h2.2 with ⟨e2, _⟩ | ⟨g, cap, cur, e2, _⟩
    · injection e2 with e3 _ _; rw [e] at e3; cases e3
    · injection e2 with e3 _ _; rw [e] at e3; injection e3 with e3; exact ⟨g, 0, e3⟩) (by omega))
  have HBS := Lib.hid h.size
  have HN := Lib.hid hn
  clear h hlen hn
  go_enter Try.func22, Try.ntmps22
  go_wp2_with fail
  refine HI.out.mono ?_
  rintro e w2 ⟨rfl, h2⟩
  rw [← h2]
  clear h2
  go_wp2_with fail
  refine HCL.out.mono ?_
  rintro e w3 ⟨v, rfl, hv, hb3⟩
  have HB3 := Lib.hid hb3
  clear c1 HCL HI
  rcases hv.rowC (B := B) (fun _ _ _ _ hp => NdO.keep hp hb3) with ⟨rfl, rfl⟩ | ⟨g, c, rfl, hg, hr⟩
  · clear hv hb3
    go_wp2
    go_loopw [15] (fun s wr => s = .int .i64 0 ∧ wr = w3) (fun _ _ => 0)
    case atStart => exact ⟨rfl, rfl⟩
    case round =>
      obtain ⟨rfl, rfl⟩ := hrel
      go_wp2
      go_ret
      exact ⟨none, 0, 0, rfl, CsAt.nil _ _, (fun a e => by cases e), (fun _ => ⟨rfl, rfl⟩), HB3.out⟩
  · obtain ⟨n, hnl⟩ : ∃ n, n = cs.length := ⟨_, rfl⟩
    rw [← hnl] at hr ⊢
    have HR := Lib.hid hr
    have HG := Lib.hid (show w.heap.size ≤ g ∧ n = cs.length from ⟨hg, hnl⟩)
    clear hv hb3 hr hg hnl
    have hnm : n ≤ 100000 := by have := HN.out; have := HG.out.2; omega
    go_wp2
    go_loopw [15] (fun s wr => ∃ i : Nat, s = .int .i64 i ∧ i ≤ n ∧ Hid (RowC wr B g n c cs ∧ Below w.heap.size w wr)) (fun s _ => n - (intOf s).toNat)
    case atStart => exact ⟨0, rfl, Nat.zero_le _, Lib.hid ⟨HR.out, HB3.out⟩⟩
    case round =>
      obtain ⟨i, rfl, hi, HS⟩ := hrel
      obtain ⟨wx, hwx⟩ : ∃ V : World, V = wr := ⟨_, rfl⟩
      rw [← hwx] at HS ⊢
      clear hwx
      by_cases hlt : i < n
      · have hlt' : (i : Int) < n := by omega
        obtain ⟨g', o', ak, nk, ck, av, nv, cw, ac, nn, cn, e9, hP, hc⟩ := HS.out.1.at_.get hlt
        injection e9 with e9
        injection e9 with eg eo _
        subst eg eo
        obtain ⟨rfl, rfl, rfl, rfl, rfl, rfl, hnd⟩ := NdO.at_ hP
        obtain ⟨x, hx⟩ : ∃ x, x = (cAt cs i).n := ⟨_, rfl⟩
        have HX := Lib.hid hx
        have HC := Lib.hid (fun j v hj (hv : ((cAt cs i).cells (.slice ak (cAt cs i).n.ks.length (cAt cs i).n.ks.length) (.slice av (cAt cs i).n.vs.length (cAt cs i).n.vs.length) (.slice ac (cAt cs i).n.cs.length (cAt cs i).n.cs.length))[j]? = some v) => (hc wx (Below.refl _ _) j hj).trans hv)
        have q6 : wx.cell? ⟨g, 0 + i * 14 + 6, none⟩ = some (.int .i64 x.lv) := by rw [hx]; exact HC.out 6 _ (by decide) rfl
        have q7 : wx.cell? ⟨g, 0 + i * 14 + 7, none⟩ = some (.string x.lo) := by rw [hx]; exact HC.out 7 _ (by decide) rfl
        have q8 : wx.cell? ⟨g, 0 + i * 14 + 8, none⟩ = some (.string x.hi) := by rw [hx]; exact HC.out 8 _ (by decide) rfl
        have q9 : wx.cell? ⟨g, 0 + i * 14 + 9, none⟩ = some (.bool x.la) := by rw [hx]; exact HC.out 9 _ (by decide) rfl
        have q10 : wx.cell? ⟨g, 0 + i * 14 + 10, none⟩ = some (.int .i64 x.nx) := by rw [hx]; exact HC.out 10 _ (by decide) rfl
        have q11 : wx.cell? ⟨g, 0 + i * 14 + 11, none⟩ = some (.slice ak x.ks.length x.ks.length) := by rw [hx]; exact HC.out 11 _ (by decide) rfl
        have q12 : wx.cell? ⟨g, 0 + i * 14 + 12, none⟩ = some (.slice av x.vs.length x.vs.length) := by rw [hx]; exact HC.out 12 _ (by decide) rfl
        have q13 : wx.cell? ⟨g, 0 + i * 14 + 13, none⟩ = some (.slice ac x.cs.length x.cs.length) := by rw [hx]; exact HC.out 13 _ (by decide) rfl
        have hPn := hP.n
        rw [← hx] at hnd hPn
        have HCN := Lib.hid (nclone_any x.lv x.nx x.lo x.hi x.la ak av ac x.ks.length x.ks.length x.vs.length x.vs.length x.cs.length x.cs.length x.ks x.vs x.cs wx hnd hPn)
        have HPN := Lib.hid hPn
        rw [Nat.zero_add] at q6 q7 q8 q9 q10 q11 q12 q13
        clear hP hc hnd hx hPn
        go_wp2_with fail
        refine HCN.out.mono ?_
        rintro e w4 ⟨kv, vv, cv, rfl, hk, hvv, hcv, hb4⟩
        obtain ⟨ka, rfl⟩ := hk.open
        obtain ⟨va, rfl⟩ := hvv.open
        obtain ⟨ca, rfl⟩ := hcv.open
        rw [List.length_map] at hk hvv hcv
        simp only [List.length_map]
        have h4 := HS.out.1.keep hb4
        have hB4 := HS.out.2.trans (hb4.mono HS.out.2.size)
        have hBx : B ≤ wx.heap.size := Nat.le_trans HBS.out HS.out.2.size
        have hnO : NdO w4 B (.slice ka x.ks.length x.ks.length) (.slice va x.vs.length x.vs.length) (.slice ca x.cs.length x.cs.length) x := ⟨(RowN.of hk).base hBx, (RowN.of hvv).base hBx, (RowN.of hcv).base hBx, HPN.out⟩
        obtain ⟨cur, hcur, hsz⟩ := h4.blk
        have fz : ∀ q, w4.frozen? ⟨g, q, none⟩ = false := fun q => by simp [World.frozen?, hcur]
        have f6 := fz (i * 14 + 6)
        have f7 := fz (i * 14 + 7)
        have f8 := fz (i * 14 + 8)
        have f9 := fz (i * 14 + 9)
        have f10 := fz (i * 14 + 10)
        have f11 := fz (i * 14 + 11)
        have f12 := fz (i * 14 + 12)
        have f13 := fz (i * 14 + 13)
        have hgl : g < wx.heap.size := World.block_lt_of_cell? wx _ q6
        have r6 := (hb4.cell (p := ⟨g, i * 14 + 6, none⟩) hgl).trans q6
        have r7 := (hb4.cell (p := ⟨g, i * 14 + 7, none⟩) hgl).trans q7
        have r8 := (hb4.cell (p := ⟨g, i * 14 + 8, none⟩) hgl).trans q8
        have r9 := (hb4.cell (p := ⟨g, i * 14 + 9, none⟩) hgl).trans q9
        have r10 := (hb4.cell (p := ⟨g, i * 14 + 10, none⟩) hgl).trans q10
        have r11 := (hb4.cell (p := ⟨g, i * 14 + 11, none⟩) hgl).trans q11
        have r12 := (hb4.cell (p := ⟨g, i * 14 + 12, none⟩) hgl).trans q12
        have r13 := (hb4.cell (p := ⟨g, i * 14 + 13, none⟩) hgl).trans q13
        have H4 := Lib.hid (show _ ∧ _ ∧ _ from ⟨h4, hB4, hnO⟩)
        clear q6 q7 q8 q9 q10 q11 q12 q13 hk hvv hcv h4 hB4 hBx hnO hcur hsz fz hb4 hgl
        go_wp2
        go_roundw
        case rel => exact ⟨i + 1, by go_num, by omega, Lib.hid ⟨H4.out.1.wr2 hlt HX.out H4.out.2.2, H4.out.2.1.trans ((turn_w8 w4 g _ _ _ _ _ _ _ _ _).below (fun j e => by rw [show j = g from e]; exact HG.out.1) H4.out.2.1.size)⟩⟩
        case measure => simp [intOf]; omega
      · obtain rfl : i = n := by omega
        go_wp2
        go_ret
        exact ⟨some ⟨g, 0, none⟩, i, c, rfl, HS.out.1.at_, (fun a e => by injection e with e; exact ⟨g, e.symm, HG.out.1⟩), (fun e => by cases e), HS.out.2⟩
end
end Go.Proofs.Ytdbklklmpnlinaa

namespace Go.Proofs.Ytdbklklmpnlinaa
open Go.RowKit Go.Maps

theorem begin_any (p : Option Addr) (w : World) : Calls Try.prog 16 #[.pointer p] w fun e w' => e = .returned (.pointer (some ⟨w.heap.size, 0, none⟩)) ∧ w' = w.alloc (.cells #[.pointer p, .slice none 0 0, .slice none 0 0] 71) := by
  go_enter Try.func16, Try.ntmps16
  go_wp2
  go_ret
  exact ⟨rfl, rfl⟩
section
variable {B E A b N nc cc : Nat} {ao : Option Addr} {tv sv : Value} {ks : List Kn} {ss ts : List (Int × Int)} {k m : Int} {cs : List Ch}
theorem begin_es {w : World} (h : FV w B A b sv N ks ss k m) : ES (w.alloc (.cells #[.pointer (some ⟨A, 0, none⟩), .slice none 0 0, .slice none 0 0] 71)) B w.heap.size A b (.slice none 0 0) (.slice none 0 0) sv N ks ss k m [] [] :=
  ⟨BX.new w _ _, h.keep (boxed_below w _), CsR.nil _ _ _, World.ownsRow_nil _ _ _ _, h.size, fun g e => by cases e⟩
set_option maxHeartbeats 2000000 in
set_option maxRecDepth 100000 in
theorem set_any (c : Int) (n : Nod) (ak : Option Addr) (ck : Nat) (av : Option Addr) (cw : Nat) (ac : Option Addr) (cn : Nat) (li : Bool) (w : World) (h : ES w B E A b (.slice ao nc cc) tv sv N ks ss k m cs ts) (hN : NdAt w ak av ac n.ks.length ck n.vs.length cw n.cs.length cn n.ks n.vs n.cs) (hn : n.ks.length ≤ 274877906944 ∧ n.vs.length ≤ 274877906944 ∧ n.cs.length ≤ 274877906944) (hwf : (Lit.int .i64 c).wf = true) :
    Calls Try.prog 17 #[.pointer (some ⟨E, 0, none⟩), .int .i64 c, .agg #[.int .i64 n.lv, .string n.lo, .string n.hi, .bool n.la, .int .i64 n.nx, .slice ak n.ks.length ck, .slice av n.vs.length cw, .slice ac n.cs.length cn], .bool li] w fun e w' => ∃ (r : Bool) (ao' : Option Addr) (nc' cc' : Nat) (k' m' : Int) (cs' : List Ch), e = .returned (.bool r) ∧ ES w' B E A b (.slice ao' nc' cc') tv sv N ks ss k' m' cs' ts ∧ Turn (ESet E A b (.slice ao nc cc) tv sv) w w' ∧ ChIs ks ts cs k m ⟨c, 0, 0, 0, false, li, n⟩ r cs' k' m' := by
  have hb1 := boxed_below w (.cells #[.int .i64 n.lv, .string n.lo, .string n.hi, .bool n.la, .int .i64 n.nx, .slice ak n.ks.length ck, .slice av n.vs.length cw, .slice ac n.cs.length cn] 41)
  have n1 := BX.new w 41 #[.int .i64 n.lv, .string n.lo, .string n.hi, .bool n.la, .int .i64 n.nx, .slice ak n.ks.length ck, .slice av n.vs.length cw, .slice ac n.cs.length cn]
  obtain ⟨G, hG⟩ : ∃ g, g = w.heap.size := ⟨_, rfl⟩
  rw [← hG] at n1
  obtain ⟨W1, hW1⟩ : ∃ W, W = w.alloc (.cells #[.int .i64 n.lv, .string n.lo, .string n.hi, .bool n.la, .int .i64 n.nx, .slice ak n.ks.length ck, .slice av n.vs.length cw, .slice ac n.cs.length cn] 41) := ⟨_, rfl⟩
  rw [← hW1] at hb1 n1
  have HCN := Lib.hid (nclone_any n.lv n.nx n.lo n.hi n.la ak av ac n.ks.length ck n.vs.length cw n.cs.length cn n.ks n.vs n.cs W1 (hN.keep hb1) hn)
  have HH := Lib.hid (h.keep hb1)
  have HB1 := Lib.hid hb1
  have HW := Lib.hid (show G = w.heap.size ∧ _ from ⟨hG, hW1⟩)
  have HNN := Lib.hid hn
  have HWF := Lib.hid hwf
  have HBW := Lib.hid h.size
  have k0 := n1.cell 0 rfl
  have k1 := n1.cell 1 rfl
  have k2 := n1.cell 2 rfl
  have k3 := n1.cell 3 rfl
  have k4 := n1.cell 4 rfl
  have k5 := n1.cell 5 rfl
  have k6 := n1.cell 6 rfl
  have k7 := n1.cell 7 rfl
  clear hb1 n1 hG hW1 h hN hn hwf
  go_enter Try.func17, Try.ntmps17
  go_upto_region 1 with fail
  rw [← HW.out.1, ← HW.out.2]
  go_wp2_with fail
  refine HCN.out.mono ?_
  rintro e w2 ⟨kv, vv, cv, rfl, hk, hv, hc, hb2⟩
  obtain ⟨ka, rfl⟩ := hk.open
  obtain ⟨va, rfl⟩ := hv.open
  obtain ⟨ca, rfl⟩ := hc.open
  rw [List.length_map] at hk hv hc
  simp only [List.length_map]
  have hsz := HB1.out.size
  have HPX := Lib.hid (show NdO w2 B (.slice ka n.ks.length n.ks.length) (.slice va n.vs.length n.vs.length) (.slice ca n.cs.length n.cs.length) n from ⟨(RowN.of hk).base (Nat.le_trans HBW.out hsz), (RowN.of hv).base (Nat.le_trans HBW.out hsz), (RowN.of hc).base (Nat.le_trans HBW.out hsz), HNN.out⟩)
  have HC := Lib.hid (change_any ⟨c, 0, 0, 0, false, li, n⟩ ka n.ks.length n.ks.length va n.vs.length n.vs.length ca n.cs.length n.cs.length w2 (HH.out.keep hb2) HPX.out HWF.out)
  unfold chA at HC
  have HB2 := Lib.hid (HB1.out.trans (hb2.mono HB1.out.size))
  clear hk hv hc hb2 hsz k0 k1 k2 k3 k4 k5 k6 k7
  go_wp2_with fail
  refine HC.out.mono ?_
  rintro e w3 ⟨r, ao', nc', cc', k', m', cs', rfl, h3, ht3, his⟩
  have HE := Lib.hid (show _ ∧ _ ∧ _ from ⟨h3, (Turn.of (S := ESet E A b (.slice ao nc cc) tv sv) HB2.out).trans ht3, his⟩)
  clear h3 ht3 his
  go_wp2
  go_ret
  exact ⟨r, ao', nc', cc', k', m', cs', rfl, HE.out.1, HE.out.2.1, HE.out.2.2⟩
set_option maxHeartbeats 2000000 in
theorem clear_any (c : Int) (w : World) (h : ES w B E A b (.slice ao nc cc) tv sv N ks ss k m cs ts) (hwf : (Lit.int .i64 c).wf = true) :
    Calls Try.prog 19 #[.pointer (some ⟨E, 0, none⟩), .int .i64 c] w fun e w' => ∃ (r : Bool) (ao' : Option Addr) (nc' cc' : Nat) (k' m' : Int) (cs' : List Ch), e = .returned (.bool r) ∧ ES w' B E A b (.slice ao' nc' cc') tv sv N ks ss k' m' cs' ts ∧ Turn (ESet E A b (.slice ao nc cc) tv sv) w w' ∧ ChIs ks ts cs k m ⟨c, 0, 0, 0, true, false, .none⟩ r cs' k' m' := by
  have HC := Lib.hid (change_any ⟨c, 0, 0, 0, true, false, .none⟩ none 0 0 none 0 0 none 0 0 w h (NdO.zero w B) hwf)
  unfold chA Nod.none at HC
  clear h hwf
  go_enter Try.func19, Try.ntmps19
  go_wp2_with fail
  refine HC.out.mono ?_
  rintro e w3 ⟨r, ao', nc', cc', k', m', cs', rfl, h3, ht3, his⟩
  have HE := Lib.hid (show _ ∧ _ ∧ _ from ⟨h3, ht3, his⟩)
  clear h3 ht3 his
  go_wp2
  go_ret
  exact ⟨r, ao', nc', cc', k', m', cs', rfl, HE.out.1, HE.out.2.1, HE.out.2.2⟩
theorem eview_any (w : World) (E A : Nat) (cv tv : Value) (h : BX w E 71 #[.pointer (some ⟨A, 0, none⟩), cv, tv]) :
    Calls Try.prog 25 #[.pointer (some ⟨E, 0, none⟩)] w fun e w' => e = .returned (.pointer (some ⟨A, 0, none⟩)) ∧ w = w' := by
  have HI := Lib.hid (begun_yes E A cv tv w h)
  have c0 := h.cell 0 rfl
  clear h
  go_enter Try.func25, Try.ntmps25
  go_wp2_with fail
  refine HI.out.mono ?_
  rintro e w2 ⟨rfl, h2⟩
  rw [← h2]
  clear h2
  go_wp2
  go_ret
  exact ⟨rfl, rfl⟩
end
end Go.Proofs.Ytdbklklmpnlinaa

namespace Go.Proofs.Ytdbklklmpnlinaa
open Go.RowKit Go.Maps

section
variable {B E A b N nc cc : Nat} {ao : Option Addr} {tv sv : Value} {ks : List Kn} {ss ts : List (Int × Int)} {k m : Int} {cs : List Ch}
/-- What an edit tells of a cell: the last change's node, or what its view knows. -/
def EAtIs (w : World) (B : Nat) (cs : List Ch) (ks : List Kn) (c k m : Int) (n : Nod) (kv vv cv : Value) (r : Bool) (k' m' : Int) : Prop :=
  (∃ j : Nat, lastC cs c cs.length = j ∧ j < cs.length ∧ n = (cAt cs j).n ∧ r = !(cAt cs j).em ∧ k' = k ∧ m' = m ∧ NdO w B kv vv cv n) ∨ (lastC cs c cs.length = -1 ∧ ∃ y : Kn, n = y.n ∧ AtIs w B ks c k m y kv vv cv r k' m')
theorem turn_a8 (W : World) (g : Nat) (v0 v1 v2 v3 v4 v5 v6 v7 : Value) : Turn (fun j => j = g) W ((((((((W.setCell ⟨g, 0, none⟩ v0).setCell ⟨g, 1, none⟩ v1).setCell ⟨g, 2, none⟩ v2).setCell ⟨g, 3, none⟩ v3).setCell ⟨g, 4, none⟩ v4).setCell ⟨g, 5, none⟩ v5).setCell ⟨g, 6, none⟩ v6).setCell ⟨g, 7, none⟩ v7) :=
  Turn.setCell (S := fun j => j = g) (Turn.setCell (S := fun j => j = g) (Turn.setCell (S := fun j => j = g) (Turn.setCell (S := fun j => j = g) (Turn.setCell (S := fun j => j = g) (Turn.setCell (S := fun j => j = g) (Turn.setCell (S := fun j => j = g) (Turn.setCell (S := fun j => j = g) (Turn.refl _ W) (Or.inl rfl) v0) (Or.inl rfl) v1) (Or.inl rfl) v2) (Or.inl rfl) v3) (Or.inl rfl) v4) (Or.inl rfl) v5) (Or.inl rfl) v6) (Or.inl rfl) v7
set_option maxHeartbeats 4000000 in
set_option maxRecDepth 100000 in
theorem edat_last (c : Int) (j : Nat) (w : World) (h : ES w B E A b (.slice ao nc cc) tv sv N ks ss k m cs ts) (hj : lastC cs c cs.length = j) (hjl : j < cs.length) :
    Calls Try.prog 18 #[.pointer (some ⟨E, 0, none⟩), .int .i64 c] w fun e w' => ∃ (n : Nod) (kv vv cv : Value), e = .returned (.tuple #[.agg #[.int .i64 n.lv, .string n.lo, .string n.hi, .bool n.la, .int .i64 n.nx, kv, vv, cv], .bool (!(cAt cs j).em)]) ∧ n = (cAt cs j).n ∧ ES w' B E A b (.slice ao nc cc) tv sv N ks ss k m cs ts ∧ Turn (VS A b sv) w w' ∧ NdO w' B kv vv cv n := by
  have hb1 := boxed_below w (.cells #[.int .i64 0, .string ⟨#[]⟩, .string ⟨#[]⟩, .bool false, .int .i64 0, .slice none 0 0, .slice none 0 0, .slice none 0 0] 41)
  have n1 := BX.new w 41 #[.int .i64 0, .string ⟨#[]⟩, .string ⟨#[]⟩, .bool false, .int .i64 0, .slice none 0 0, .slice none 0 0, .slice none 0 0]
  obtain ⟨S, hS⟩ : ∃ g, g = w.heap.size := ⟨_, rfl⟩
  rw [← hS] at n1
  obtain ⟨W1, hW1⟩ : ∃ W, W = w.alloc (.cells #[.int .i64 0, .string ⟨#[]⟩, .string ⟨#[]⟩, .bool false, .int .i64 0, .slice none 0 0, .slice none 0 0, .slice none 0 0] 41) := ⟨_, rfl⟩
  rw [← hW1] at hb1 n1
  have h1 := h.keep hb1
  have hao := h1.aoIn
  have hcs := h1.ch.ks
  have HBG := Lib.hid (begun_yes E A _ _ W1 h1.ed)
  have HL := Lib.hid (last_any E A ao nc cc tv c cs _ W1 h1.ed hcs (fun g o e => (hao g o e).1))
  rw [hj] at HL
  have hlen := hcs.len
  obtain ⟨g, o, ak, nk, ck, av, nv, cv, ac, nn, cn, rfl, hP, hc⟩ := hcs.get (j := j) (by omega)
  have hP2 : NdO W1 B (.slice ak nk ck) (.slice av nv cv) (.slice ac nn cn) (cAt cs j).n := hP
  have hSg : ¬ S = g := fun e => by
    rcases h.aoIn g o rfl with ⟨h9, _⟩
    omega
  have HSS := Lib.hid (show ∀ i, ESet E A b (.slice (some ⟨g, o, none⟩) nc cc) tv sv i → ¬ i = S from fun i hi e => by have := h.lt i hi; omega)
  have HSZ := Lib.hid (show w.heap.size ≤ S from by omega)
  have hSE : ¬ S = E := fun e => by have := lt_of_block h.ed; omega
  have hSg' : ¬ g = S := fun e => hSg e.symm
  have hSE' : ¬ E = S := fun e => hSE e.symm
  obtain ⟨n, hn⟩ : ∃ v, v = (cAt cs j).n := ⟨_, rfl⟩
  obtain ⟨em, hem⟩ : ∃ v, v = (cAt cs j).em := ⟨_, rfl⟩
  have HC := Lib.hid (show ∀ V, Below W1.heap.size W1 V → V.cell? ⟨g, o + j * 14 + 4, none⟩ = some (.bool em) ∧ V.cell? ⟨g, o + j * 14 + 6, none⟩ = some (.int .i64 n.lv) ∧ V.cell? ⟨g, o + j * 14 + 7, none⟩ = some (.string n.lo) ∧ V.cell? ⟨g, o + j * 14 + 8, none⟩ = some (.string n.hi) ∧ V.cell? ⟨g, o + j * 14 + 9, none⟩ = some (.bool n.la) ∧ V.cell? ⟨g, o + j * 14 + 10, none⟩ = some (.int .i64 n.nx) ∧ V.cell? ⟨g, o + j * 14 + 11, none⟩ = some (.slice ak nk ck) ∧ V.cell? ⟨g, o + j * 14 + 12, none⟩ = some (.slice av nv cv) ∧ V.cell? ⟨g, o + j * 14 + 13, none⟩ = some (.slice ac nn cn) from fun V hV => by
    rw [hn, hem]
    exact ⟨hc V hV 4 (by decide), hc V hV 6 (by decide), hc V hV 7 (by decide), hc V hV 8 (by decide), hc V hV 9 (by decide), hc V hV 10 (by decide), hc V hV 11 (by decide), hc V hV 12 (by decide), hc V hV 13 (by decide)⟩)
  rw [← hem]
  rw [← hn] at hP2
  have HN := Lib.hid (show _ ∧ _ from ⟨hn, hP2⟩)
  have HH := Lib.hid h1
  have HX := Lib.hid n1
  have HB1 := Lib.hid hb1
  have HW := Lib.hid (show S = w.heap.size ∧ _ from ⟨hS, hW1⟩)
  have hj' : (j : Int) < nc := by omega
  have hjn := bne_neg1 j
  clear hb1 n1 hS hW1 h h1 hcs hc hn hem hao hj hP hP2
  go_enter Try.func18, Try.ntmps18
  go_upto_region 1 with fail
  rw [← HW.out.1, ← HW.out.2]
  clear HW
  go_wp2_with fail
  refine HBG.out.mono ?_
  rintro e w3 ⟨rfl, h3⟩
  rw [← h3]
  clear h3
  go_wp2_with fail
  refine HL.out.mono ?_
  rintro e w2 ⟨rfl, hb2⟩
  have n2 := HX.out.below hb2
  have h2 := HH.out.keep hb2
  have c1 := h2.ed.cell 1 rfl
  obtain ⟨q4, q6, q7, q8, q9, q10, q11, q12, q13⟩ := HC.out w2 hb2
  have s0 := n2.cell 0 rfl
  have f0 := n2.frozen 0
  have s1 := n2.cell 1 rfl
  have f1 := n2.frozen 1
  have s2 := n2.cell 2 rfl
  have f2 := n2.frozen 2
  have s3 := n2.cell 3 rfl
  have f3 := n2.frozen 3
  have s4 := n2.cell 4 rfl
  have f4 := n2.frozen 4
  have s5 := n2.cell 5 rfl
  have f5 := n2.frozen 5
  have s6 := n2.cell 6 rfl
  have f6 := n2.frozen 6
  have s7 := n2.cell 7 rfl
  have f7 := n2.frozen 7
  have H2 := Lib.hid h2
  have N2 := Lib.hid n2
  have HB2 := Lib.hid (HB1.out.trans (hb2.mono HB1.out.size))
  have HP := Lib.hid (HN.out.2.keep hb2)
  have HTW := Lib.hid (Turn.of (S := VS A b sv) HB2.out)
  clear n2 h2 hb2
  go_upto_region 5 with fail
  go_region
  go_wp2
  refine bodyPost_ret (v := .tuple #[.agg #[.int .i64 n.lv, .string n.lo, .string n.hi, .bool n.la, .int .i64 n.nx, .slice ak nk ck, .slice av nv cv, .slice ac nn cn], .bool (!em)]) (by simp [results, Try.results18, go_sem, *]) rfl ?_
  have ht2 := (turn_a8 w2 S (.int .i64 n.lv) (.string n.lo) (.string n.hi) (.bool n.la) (.int .i64 n.nx) (.slice ak nk ck) (.slice av nv cv) (.slice ac nn cn)).drew
  have hoff : Off w2 (fun j => j = S) := fun g c2 t e hg => by
    rw [show g = S from e] at hg
    rw [N2.out.type9 hg]
    decide
  exact ⟨n, _, _, _, rfl, HN.out.1, H2.out.turn ht2 (fun j hj e => HSS.out j hj e) hoff, HTW.out.through ht2 (fun j e => by rw [show j = S from e]; exact HSZ.out), HP.out.turn hoff ht2⟩
set_option maxHeartbeats 4000000 in
set_option maxRecDepth 100000 in
theorem edat_view (c : Int) (w : World) (h : ES w B E A b (.slice ao nc cc) tv sv N ks ss k m cs ts) (hwf : (Lit.int .i64 c).wf = true) (hj : lastC cs c cs.length = -1) :
    Calls Try.prog 18 #[.pointer (some ⟨E, 0, none⟩), .int .i64 c] w fun e w' => ∃ (n : Nod) (kv vv cv : Value) (r : Bool) (k' m' : Int), e = .returned (.tuple #[.agg #[.int .i64 n.lv, .string n.lo, .string n.hi, .bool n.la, .int .i64 n.nx, kv, vv, cv], .bool r]) ∧ ES w' B E A b (.slice ao nc cc) tv sv N ks ss k' m' cs ts ∧ Turn (VS A b sv) w w' ∧ ∃ y : Kn, n = y.n ∧ AtIs w' B ks c k m y kv vv cv r k' m' := by
  have hb1 := boxed_below w (.cells #[.int .i64 0, .string ⟨#[]⟩, .string ⟨#[]⟩, .bool false, .int .i64 0, .slice none 0 0, .slice none 0 0, .slice none 0 0] 41)
  have n1 := BX.new w 41 #[.int .i64 0, .string ⟨#[]⟩, .string ⟨#[]⟩, .bool false, .int .i64 0, .slice none 0 0, .slice none 0 0, .slice none 0 0]
  obtain ⟨S, hS⟩ : ∃ g, g = w.heap.size := ⟨_, rfl⟩
  rw [← hS] at n1
  obtain ⟨W1, hW1⟩ : ∃ W, W = w.alloc (.cells #[.int .i64 0, .string ⟨#[]⟩, .string ⟨#[]⟩, .bool false, .int .i64 0, .slice none 0 0, .slice none 0 0, .slice none 0 0] 41) := ⟨_, rfl⟩
  rw [← hW1] at hb1 n1
  have h1 := h.keep hb1
  have hao := h1.aoIn
  have hcs := h1.ch.ks
  have HBG := Lib.hid (begun_yes E A _ _ W1 h1.ed)
  have HL := Lib.hid (last_any E A ao nc cc tv c cs _ W1 h1.ed hcs (fun g o e => (hao g o e).1))
  rw [hj] at HL
  have hSE : ¬ S = E := fun e => by have := lt_of_block h.ed; omega
  have hSE' : ¬ E = S := fun e => hSE e.symm
  have HSS := Lib.hid (show ∀ i, ESet E A b (.slice ao nc cc) tv sv i → ¬ i = S from fun i hi e => by have := h.lt i hi; omega)
  have HSZ := Lib.hid (show w.heap.size ≤ S from by omega)
  have HWF := Lib.hid hwf
  have HH := Lib.hid h1
  have HX := Lib.hid n1
  have HB1 := Lib.hid hb1
  have HW := Lib.hid (show S = w.heap.size ∧ _ from ⟨hS, hW1⟩)
  clear hb1 n1 hS hW1 h h1 hcs hao hj hwf
  go_enter Try.func18, Try.ntmps18
  go_upto_region 1 with fail
  rw [← HW.out.1, ← HW.out.2]
  clear HW
  go_wp2_with fail
  refine HBG.out.mono ?_
  rintro e w3 ⟨rfl, h3⟩
  rw [← h3]
  clear h3
  go_wp2_with fail
  refine HL.out.mono ?_
  rintro e w4 ⟨rfl, hb4⟩
  have n4 := HX.out.below hb4
  have h4 := HH.out.keep hb4
  have c1 : w4.cell? ⟨E, 0, none⟩ = some (.pointer (some ⟨A, 0, none⟩)) := h4.ed.cell 0 rfl
  have H4 := Lib.hid h4
  have N4 := Lib.hid n4
  have HVS := Lib.hid (show ∀ j, VS A b sv j → j < w4.heap.size from fun j hj => h4.lt j (Or.inr (Or.inl hj)))
  have T4 := Lib.hid (Turn.of (S := VS A b sv) (HB1.out.trans (hb4.mono HB1.out.size)))
  have HAT := Lib.hid (fun W (hb : Below w4.heap.size w4 W) => at_both c W HWF.out (H4.out.fv.keep hb))
  clear n4 h4 hb4
  go_upto_region 6 with fail
  go_cut [7, 8] (fun s7 s8 wx => ∃ (K : Nat) (y : Kn) (ak2 : Option Addr) (nk2 ck2 : Nat) (av2 : Option Addr) (nv2 cw2 : Nat) (ac2 : Option Addr) (nn2 cn2 : Nat) (r : Bool) (k' m' : Int), s7 = .pointer (some ⟨K, 0, none⟩) ∧ s8 = .bool r ∧ Hid (LV w4 wx B A b N sv ks ss k m c K y (.slice ak2 nk2 ck2) (.slice av2 nv2 cw2) (.slice ac2 nn2 cn2) r k' m'))
  case first =>
    go_wp2_with fail
    refine (HAT.out w4 (Below.refl _ _)).mono ?_
    rintro e wa ⟨y, ak2, nk2, ck2, av2, nv2, cw2, ac2, nn2, cn2, r, k', m', rfl, hfa, hta, hia⟩
    have HFA := Lib.hid hfa
    have HTA := Lib.hid hta
    have HIA := Lib.hid hia
    clear hfa hta hia
    first | go_meet | (go_step; go_meet) | (go_wp2_with fail; go_meet)
    refine ⟨_, y, ak2, nk2, ck2, av2, nv2, cw2, ac2, nn2, cn2, r, k', m', rfl, rfl, Lib.hid ?_⟩
    exact lv_new HFA.out HTA.out HIA.out
  case rest =>
    obtain ⟨K, y, ak2, nk2, ck2, av2, nv2, cw2, ac2, nn2, cn2, r, k', m', rfl, rfl, HV⟩ := hcut
    have hv := HV.out
    have nS : BX wc S 41 #[.int .i64 0, .string ⟨#[]⟩, .string ⟨#[]⟩, .bool false, .int .i64 0, .slice none 0 0, .slice none 0 0, .slice none 0 0] := (hv.tn.block S (lt_of_block N4.out) (fun e => HSS.out S (Or.inr (Or.inl e)) rfl)).trans N4.out
    have hKS : ¬ K = S := fun e => by have := lt_of_block N4.out; have := hv.ge; omega
    have hKS' : ¬ S = K := fun e => hKS e.symm
    have p3 : wc.cell? ⟨K, 3, none⟩ = some (.int .i64 y.n.lv) := hv.bx.cell 3 rfl
    have p4 : wc.cell? ⟨K, 4, none⟩ = some (.string y.n.lo) := hv.bx.cell 4 rfl
    have p5 : wc.cell? ⟨K, 5, none⟩ = some (.string y.n.hi) := hv.bx.cell 5 rfl
    have p6 : wc.cell? ⟨K, 6, none⟩ = some (.bool y.n.la) := hv.bx.cell 6 rfl
    have p7 : wc.cell? ⟨K, 7, none⟩ = some (.int .i64 y.n.nx) := hv.bx.cell 7 rfl
    have p8 : wc.cell? ⟨K, 8, none⟩ = some (.slice ak2 nk2 ck2) := hv.bx.cell 8 rfl
    have p9 : wc.cell? ⟨K, 9, none⟩ = some (.slice av2 nv2 cw2) := hv.bx.cell 9 rfl
    have p10 : wc.cell? ⟨K, 10, none⟩ = some (.slice ac2 nn2 cn2) := hv.bx.cell 10 rfl
    have s0 := nS.cell 0 rfl
    have f0 := nS.frozen 0
    have s1 := nS.cell 1 rfl
    have f1 := nS.frozen 1
    have s2 := nS.cell 2 rfl
    have f2 := nS.frozen 2
    have s3 := nS.cell 3 rfl
    have f3 := nS.frozen 3
    have s4 := nS.cell 4 rfl
    have f4 := nS.frozen 4
    have s5 := nS.cell 5 rfl
    have f5 := nS.frozen 5
    have s6 := nS.cell 6 rfl
    have f6 := nS.frozen 6
    have s7 := nS.cell 7 rfl
    have f7 := nS.frozen 7
    have NS := Lib.hid nS
    have HES := Lib.hid (H4.out.view hv.fv hv.tn)
    clear hv nS c1
    go_wp2
    refine bodyPost_ret (v := .tuple #[.agg #[.int .i64 y.n.lv, .string y.n.lo, .string y.n.hi, .bool y.n.la, .int .i64 y.n.nx, .slice ak2 nk2 ck2, .slice av2 nv2 cw2, .slice ac2 nn2 cn2], .bool r]) (by simp [results, Try.results18, go_sem, *]) rfl ?_
    have ht2 := turn_a8 wc S (.int .i64 y.n.lv) (.string y.n.lo) (.string y.n.hi) (.bool y.n.la) (.int .i64 y.n.nx) (.slice ak2 nk2 ck2) (.slice av2 nv2 cw2) (.slice ac2 nn2 cn2)
    have hoff : Off wc (fun j => j = S) := fun g c2 t e hg => by
      rw [show g = S from e] at hg
      rw [NS.out.type9 hg]
      decide
    have hTT := (T4.out.trans HV.out.tn).through ht2 (fun j e => by rw [show j = S from e]; exact HSZ.out)
    exact ⟨y.n, _, _, _, r, k', m', rfl, HES.out.turn ht2 (fun j hj e => HSS.out j hj e) hoff, hTT, y, rfl, HV.out.is.turn hoff ht2⟩
theorem edat_any (c : Int) (w : World) (h : ES w B E A b (.slice ao nc cc) tv sv N ks ss k m cs ts) (hwf : (Lit.int .i64 c).wf = true) :
    Calls Try.prog 18 #[.pointer (some ⟨E, 0, none⟩), .int .i64 c] w fun e w' => ∃ (n : Nod) (kv vv cv : Value) (r : Bool) (k' m' : Int), e = .returned (.tuple #[.agg #[.int .i64 n.lv, .string n.lo, .string n.hi, .bool n.la, .int .i64 n.nx, kv, vv, cv], .bool r]) ∧ ES w' B E A b (.slice ao nc cc) tv sv N ks ss k' m' cs ts ∧ Turn (VS A b sv) w w' ∧ EAtIs w' B cs ks c k m n kv vv cv r k' m' := by
  rcases lastC_is cs c cs.length with ⟨h1, _⟩ | ⟨j, h1, h2, _⟩
  · refine (edat_view c w h hwf h1).mono ?_
    rintro e w' ⟨n, kv, vv, cv, r, k', m', he, hes, ht, hy⟩
    exact ⟨n, kv, vv, cv, r, k', m', he, hes, ht, Or.inr ⟨h1, hy⟩⟩
  · refine (edat_last c j w h h1 h2).mono ?_
    rintro e w' ⟨n, kv, vv, cv, he, hn, hes, ht, hnd⟩
    exact ⟨n, kv, vv, cv, _, k, m, he, hes, ht, Or.inl ⟨j, h1, h2, hn, rfl, rfl, rfl, hnd⟩⟩
end
end Go.Proofs.Ytdbklklmpnlinaa

namespace Go.Proofs.Ytdbklklmpnlinaa
open Go.RowKit Go.Maps

section
variable {B E A b N nc cc sn sc : Nat} {ao so : Option Addr} {tv : Value} {ks : List Kn} {ss ts : List (Int × Int)} {k m : Int} {cs : List Ch}
/-- What a view told of a spare's place. -/
def TkIs (ss : List (Int × Int)) (i : Nat) (k m c v : Int) (r : Bool) (k' m' : Int) : Prop :=
  (r = true ∧ i < ss.length ∧ c = (nts ss i).1 ∧ v = (nts ss i).2 ∧ k' = k ∧ m' = m) ∨ (r = false ∧ ss.length ≤ i ∧ c = 0 ∧ v = 0 ∧ k' = lackK k (cellB i) 2 ∧ m' = lackM k m (cellB i) ((i : Int) + 1))
theorem take_both (i : Nat) (w : World) (hi : i ≤ 1000000) (h : FV w B A b (.slice so sn sc) N ks ss k m) :
    Calls Try.prog 47 #[.pointer (some ⟨A, 0, none⟩), .int .i64 (i : Nat)] w fun e w' => ∃ (c v : Int) (r : Bool) (k' m' : Int), e = .returned (.tuple #[.agg #[.int .i64 c, .int .u64 v], .bool r]) ∧ FV w' B A b (.slice so sn sc) N ks ss k' m' ∧ Turn (VS A b (.slice so sn sc)) w w' ∧ TkIs ss i k m c v r k' m' := by
  by_cases h1 : i < ss.length
  · refine (take_hit i w h h1).mono ?_
    rintro e w' ⟨rfl, hf, hb⟩
    exact ⟨_, _, true, k, m, rfl, hf, Turn.of hb, Or.inl ⟨rfl, h1, rfl, rfl, rfl, rfl⟩⟩
  · refine (take_miss i w h (Or.inr (by omega)) (by omega)).mono ?_
    rintro e w' ⟨rfl, hf, ht⟩
    exact ⟨0, 0, false, _, _, rfl, hf, ht, Or.inr ⟨rfl, by omega, rfl, rfl, rfl, rfl⟩⟩
/-- Behind the view's telling: its answer in a box. -/
structure TV (W wx : World) (B A b N : Nat) (sv : Value) (ks : List Kn) (ss : List (Int × Int)) (k m : Int) (i K : Nat) (c v : Int) (r : Bool) (k' m' : Int) : Prop where
  bx : BX wx K 51 #[.int .i64 c, .int .u64 v]
  fv : FV wx B A b sv N ks ss k' m'
  tn : Turn (VS A b sv) W wx
  is : TkIs ss i k m c v r k' m'
  ge : W.heap.size ≤ K
theorem tv_new {W wa : World} {i : Nat} {sv : Value} {c v : Int} {r : Bool} {k' m' : Int} (hf : FV wa B A b sv N ks ss k' m') (ht : Turn (VS A b sv) W wa) (hi : TkIs ss i k m c v r k' m') : TV W (wa.alloc (.cells #[.int .i64 c, .int .u64 v] 51)) B A b N sv ks ss k m i wa.heap.size c v r k' m' :=
  ⟨BX.new wa _ _, hf.keep (boxed_below wa _), ht.alloc _, hi, ht.size⟩
theorem tv_set {W wa : World} {i K : Nat} {sv : Value} {c v z0 z1 : Int} {r : Bool} {k' m' : Int} (hK : BX wa K 51 #[.int .i64 z0, .int .u64 z1]) (hge : W.heap.size ≤ K) (hvs : ∀ j, VS A b sv j → j < W.heap.size) (hf : FV wa B A b sv N ks ss k' m') (ht : Turn (VS A b sv) W wa) (hi : TkIs ss i k m c v r k' m') :
    TV W ((wa.setCell ⟨K, 0, none⟩ (.int .i64 c)).setCell ⟨K, 1, none⟩ (.int .u64 v)) B A b N sv ks ss k m i K c v r k' m' := by
  have ht2 : Turn (fun j => j = K) wa ((wa.setCell ⟨K, 0, none⟩ (.int .i64 c)).setCell ⟨K, 1, none⟩ (.int .u64 v)) := Turn.setCell (S := fun j => j = K) (Turn.setCell (S := fun j => j = K) (Turn.refl _ wa) (Or.inl rfl) _) (Or.inl rfl) _
  have hoff : Off wa (fun j => j = K) := fun g c2 t e hg => by
    rw [show g = K from e] at hg
    rw [hK.type9 hg]
    decide
  exact ⟨(hK.set 0 _).set 1 _, hf.turn ht2 (fun j hj e => by have := hvs j hj; have e' : j = K := e; omega) hoff, ht.through ht2 (fun j e => by rw [show j = K from e]; exact hge), hi, hge⟩
/-- The cells that Spare's append loads. -/
def Tk3 (E K : Nat) (tv : Value) (c v : Int) (V : World) : Prop := V.cell? ⟨E, 2, none⟩ = some tv ∧ V.cell? ⟨K, 0, none⟩ = some (.int .i64 c) ∧ V.cell? ⟨K, 1, none⟩ = some (.int .u64 v)
set_option maxHeartbeats 4000000 in
set_option maxRecDepth 100000 in
theorem espare_any (w : World) (h : ES w B E A b (.slice ao nc cc) tv (.slice so sn sc) N ks ss k m cs ts) (htl : ts.length ≤ 1000000) :
    Calls Try.prog 20 #[.pointer (some ⟨E, 0, none⟩)] w fun e w' => ∃ (c : Int) (r : Bool) (tv' : Value) (k' m' : Int) (ts' : List (Int × Int)), e = .returned (.tuple #[.int .i64 c, .bool r]) ∧ ES w' B E A b (.slice ao nc cc) tv' (.slice so sn sc) N ks ss k' m' cs ts' ∧ Turn (ESet E A b (.slice ao nc cc) tv (.slice so sn sc)) w w' ∧ ((r = true ∧ ts.length < ss.length ∧ c = (nts ss ts.length).1 ∧ ts' = ts ++ [nts ss ts.length] ∧ k' = k ∧ m' = m) ∨ (r = false ∧ c = -1 ∧ ss.length ≤ ts.length ∧ ts' = ts ∧ k' = lackK k (cellB ts.length) 2 ∧ m' = lackM k m (cellB ts.length) ((ts.length : Int) + 1))) := by
  have HI := Lib.hid (begun_yes E A _ _ w h.ed)
  obtain ⟨tao, tc, rfl, _⟩ := tk_form h.tk
  have HH := Lib.hid h
  have HTL := Lib.hid htl
  have e0 := h.ed.cell 0 rfl
  have e2 := h.ed.cell 2 rfl
  obtain ⟨W2, hW2⟩ : ∃ W, W = w := ⟨_, rfl⟩
  have HVS := Lib.hid (show ∀ j, VS A b (.slice so sn sc) j → j < W2.heap.size from fun j hj => by rw [hW2]; exact h.lt j (Or.inr (Or.inl hj)))
  have HAT := Lib.hid (fun W (hb : Below W2.heap.size W2 W) => take_both ts.length W htl (h.fv.keep (by rw [← hW2]; exact hb)))
  have HKE : Hid (∀ V, Turn (VS A b (.slice so sn sc)) W2 V → V.cell? ⟨E, 0, none⟩ = some (.pointer (some ⟨A, 0, none⟩)) ∧ V.cell? ⟨E, 2, none⟩ = some (.slice tao ts.length tc)) := Lib.hid (fun V hV => by
    have hE : BX V E 71 #[.pointer (some ⟨A, 0, none⟩), .slice ao nc cc, .slice tao ts.length tc] := (hV.block E (by rw [hW2]; exact lt_of_block h.ed) h.not_vs).trans (by rw [hW2]; exact h.ed)
    exact ⟨hE.cell 0 rfl, hE.cell 2 rfl⟩)
  have HW2 := Lib.hid hW2
  clear h htl hW2
  go_enter Try.func20, Try.ntmps20
  go_wp2_with fail
  refine HI.out.mono ?_
  rintro e w3 ⟨rfl, h3⟩
  rw [← h3, ← HW2.out]
  clear h3
  rw [← HW2.out] at e0 e2
  have hS4 : W2.drew.cell? ⟨E, 0, none⟩ = some (.pointer (some ⟨A, 0, none⟩)) ∧ W2.drew.cell? ⟨E, 2, none⟩ = some (.slice tao ts.length tc) := ⟨e0, e2⟩
  go_upto_region 3 with fail
  go_cut [4, 5] (fun s4 s5 wx => ∃ (K : Nat) (c v : Int) (r : Bool) (k' m' : Int), s4 = .pointer (some ⟨K, 0, none⟩) ∧ s5 = .bool r ∧ Hid (TV W2 wx B A b N (.slice so sn sc) ks ss k m ts.length K c v r k' m'))
  case first =>
    go_region_held_law (fun V => V.cell? ⟨E, 0, none⟩ = some (.pointer (some ⟨A, 0, none⟩)) ∧ V.cell? ⟨E, 2, none⟩ = some (.slice tao ts.length tc))
      (first | (with_reducible exact hS4) | (refine HKE.out _ ?_; repeat' (first | (with_reducible exact HTA.out) | (with_reducible exact Turn.refl _ _) | (with_reducible refine Turn.drew ?_) | (with_reducible refine Turn.alloc ?_ _) | (with_reducible refine Turn.setCell ?_ (Or.inr (Nat.le_refl _)) _))))
      (first
        | (go_at_call 47; refine (HAT.out _ (by first | exact (Below.refl _ _).drew | exact (Below.refl W2.heap.size W2).drew.alloc (Nat.le_refl _) _ | exact ((Below.refl W2.heap.size W2).alloc (Nat.le_refl _) _).drew)).mono ?_; rintro e wa ⟨c, v, r, k', m', rfl, hfa, hta, hia⟩; (first | (have HTA : Hid (Turn (VS A b (.slice so sn sc)) W2 wa) := Lib.hid (Turn.trans (Turn.drew (Turn.refl _ W2)) hta)) | (have HTA : Hid (Turn (VS A b (.slice so sn sc)) W2 wa) := Lib.hid (Turn.trans (Turn.alloc (Turn.drew (Turn.refl _ W2)) (.cells #[.int .i64 0, .int .u64 0] 51)) hta)) | (have HTA : Hid (Turn (VS A b (.slice so sn sc)) W2 wa) := Lib.hid (Turn.trans (Turn.drew (Turn.alloc (Turn.refl _ W2) (.cells #[.int .i64 0, .int .u64 0] 51))) hta))); (first | (have HP : Hid (BX wa W2.heap.size 51 #[.int .i64 0, .int .u64 0]) := Lib.hid ((hta.block W2.heap.size (lt_of_block (BX.new W2.drew 51 #[.int .i64 0, .int .u64 0])) (fun e => absurd (HVS.out _ e) (Nat.lt_irrefl _))).trans (BX.new W2.drew 51 #[.int .i64 0, .int .u64 0])); have z0 := HP.out.cell 0 rfl; have z1 := HP.out.cell 1 rfl; have y0 := HP.out.frozen 0; have y1 := HP.out.frozen 1) | skip); have HFA := Lib.hid hfa; have HIA := Lib.hid hia; clear hfa hta hia))
    all_goals first | go_meet | (go_step; go_meet) | (go_wp2_with fail; go_meet)
    all_goals refine ⟨_, c, v, r, k', m', rfl, rfl, Lib.hid ?_⟩
    all_goals first | (with_reducible exact tv_new HFA.out HTA.out HIA.out) | exact tv_set HP.out (Nat.le_refl _) HVS.out HFA.out HTA.out HIA.out
  case rest =>
    obtain ⟨K, c, v, r, k', m', rfl, rfl, HV⟩ := hcut
    have h2 : ES W2 B E A b (.slice ao nc cc) (.slice tao ts.length tc) (.slice so sn sc) N ks ss k m cs ts := by rw [HW2.out]; exact HH.out
    have H5 := Lib.hid (h2.view HV.out.fv HV.out.tn)
    have HT5 := Lib.hid (show Turn (ESet E A b (.slice ao nc cc) (.slice tao ts.length tc) (.slice so sn sc)) w wc from by rw [← HW2.out]; exact HV.out.tn.mono (fun g _ hg => Or.inr (Or.inl hg)))
    have HKG := Lib.hid (show ¬ ESet E A b (.slice ao nc cc) (.slice tao ts.length tc) (.slice so sn sc) K from fun e => by have := h2.lt K e; have := HV.out.ge; omega)
    clear hS4 e0 e2 h2 HAT HKE
    cases r with
    | false =>
      go_wp2
      go_ret2
      refine ⟨-1, false, _, k', m', ts, rfl, H5.out, HT5.out, Or.inr ?_⟩
      rcases HV.out.is with ⟨e, _⟩ | ⟨_, e2, _, _, e5, e6⟩
      · cases e
      · exact ⟨rfl, rfl, e2, rfl, e5, e6⟩
    | true =>
      have hlt : ts.length < ss.length ∧ c = (nts ss ts.length).1 ∧ v = (nts ss ts.length).2 ∧ k' = k ∧ m' = m := by
        rcases HV.out.is with ⟨_, e⟩ | ⟨e, _⟩
        · exact e
        · cases e
      have HLT := Lib.hid hlt
      have HS0 := Lib.hid (show Tk3 E K (.slice tao ts.length tc) c v wc.drew from ⟨H5.out.ed.cell 2 rfl, HV.out.bx.cell 0 rfl, HV.out.bx.cell 1 rfl⟩)
      have hbA : Below wc.heap.size wc (wc.drew.alloc (.cells #[.int .i64 c, .int .u64 v] 51)) := ((Below.refl _ wc).drew).alloc (Nat.le_refl _) _
      have HMB := Lib.hid (H5.out.keep hbA)
      have HNB := Lib.hid (HV.out.bx.below hbA)
      have HSB := Lib.hid (show Tk3 E K (.slice tao ts.length tc) c v (wc.drew.alloc (.cells #[.int .i64 c, .int .u64 v] 51)) from ⟨HMB.out.ed.cell 2 rfl, HNB.out.cell 0 rfl, HNB.out.cell 1 rfl⟩)
      have HBA := Lib.hid hbA
      have HNEWS := Lib.hid (World.news_of_block (cs := #[.int .i64 c, .int .u64 v]) (heap_alloc_new wc.drew (.cells #[.int .i64 c, .int .u64 v] 51)))
      have HGL := Lib.hid (lt_of_block HV.out.bx)
      obtain ⟨i0, hi, hz0, hz1, hz2⟩ := info_parts fvInfoSp
      have HIN := Lib.hid (show _ ∧ _ ∧ _ ∧ _ from ⟨hi, hz0, hz1, hz2⟩)
      have hts := HTL.out
      clear hlt hbA hi hz0 hz1 hz2
      go_upto_region 6 with fail
      refine wp_region_till (Tk3 E K (.slice tao ts.length tc) c v) 10 (by rfl) ?_
      refine wpAnyS_take 0 (some 24) [10] rfl rfl (by kernel_rfl) (by kernel_rfl) (by kernel_rfl) (by kernel_rfl) (by kernel_rfl) (by kernel_rfl) (by kernel_rfl) (fun _ _ _ h => h) (by rfl) (by intro V ⟨y1, y2, y3⟩; go_simp; (first | done | (with_reducible rfl))) HS0.out ?_
      simp only [Act.put, List.setIfInBounds_toArray, List.set_cons_zero, List.set_cons_succ]
      refine wpAnyS_take 1 (some 25) [10] rfl rfl (by kernel_rfl) (by kernel_rfl) (by kernel_rfl) (by kernel_rfl) (by kernel_rfl) (by kernel_rfl) (by kernel_rfl) (fun _ _ _ h => h) (by rfl) (by intro V ⟨y1, y2, y3⟩; go_simp; (first | done | (with_reducible rfl))) HS0.out ?_
      simp only [Act.put, List.setIfInBounds_toArray, List.set_cons_zero, List.set_cons_succ]
      refine wpAnyS_take 2 (some 26) [10] rfl rfl (by kernel_rfl) (by kernel_rfl) (by kernel_rfl) (by kernel_rfl) (by kernel_rfl) (by kernel_rfl) (by kernel_rfl) (fun _ _ _ h => h) (by rfl) (by intro V ⟨y1, y2, y3⟩; go_simp; (first | done | (with_reducible rfl))) HS0.out ?_
      simp only [Act.put, List.setIfInBounds_toArray, List.set_cons_zero, List.set_cons_succ]
      refine wpAnyS_take 3 (some 27) [10] rfl rfl (by kernel_rfl) (by kernel_rfl) (by kernel_rfl) (by kernel_rfl) (by kernel_rfl) (by kernel_rfl) (by kernel_rfl) (fun _ _ _ h => h) (by rfl) (by intro V ⟨y1, y2, y3⟩; go_simp; (first | done | (with_reducible rfl))) HS0.out ?_
      simp only [Act.put, List.setIfInBounds_toArray, List.set_cons_zero, List.set_cons_succ]
      refine wpAnyS_take 4 (some 28) [10] rfl rfl (by kernel_rfl) (by kernel_rfl) (by kernel_rfl) (by kernel_rfl) (by kernel_rfl) (by kernel_rfl) (by kernel_rfl) (fun _ _ _ h => h) (by rfl) (by intro V ⟨y1, y2, y3⟩; go_simp; (first | done | (with_reducible rfl))) HS0.out ?_
      simp only [Act.put, List.setIfInBounds_toArray, List.set_cons_zero, List.set_cons_succ]
      refine wpAnyS_take 5 (some 29) [10] rfl rfl (by kernel_rfl) (by kernel_rfl) (by kernel_rfl) (by kernel_rfl) (by kernel_rfl) (by kernel_rfl) (by kernel_rfl) (fun _ _ _ h => h) (by rfl) (by intro V ⟨y1, y2, y3⟩; go_simp; (first | done | (with_reducible rfl))) HS0.out ?_
      simp only [Act.put, List.setIfInBounds_toArray, List.set_cons_zero, List.set_cons_succ]
      refine wpAnyS_ready [6] (by kernel_rfl) (by simp) ?_
      refine AllReadyS.cons rfl (fun K9 hK => ?_) AllReadyS.nil
      go_simp
      refine hK.out _ _ (fun _ => HSB.out) ?_
      clear hK K9
      refine wpAnyS_ready [7] (by kernel_rfl) (by simp) ?_
      refine AllReadyS.cons rfl (fun K9 hK => ?_) AllReadyS.nil
      refine step_append_lies _ rfl (.tmp 28) (.tmp 30) 34 rfl B 51 i0 (.agg #[.int .i64 0, .int .u64 0]) 2 16 Try.underlying34 HIN.out.1 HIN.out.2.1 HIN.out.2.2.1 HIN.out.2.2.2 rfl (by decide) (.slice tao ts.length tc) ts.length (spC ts) rfl HMB.out.tk ⟨_, 0, none⟩ 1 1 [.int .i64 c, .int .u64 v] rfl rfl HNEWS.out (by intro u hu; simp at hu; rcases hu with rfl | rfl <;> rfl) (by omega) (by unfold maxLen; omega) (by omega) HMB.out.size _ rfl ?_
      intro g c9 w9 hown9 hgrow9 hlie9 hlt9
      obtain ⟨hf9, ht9⟩ := HMB.out.took hgrow9 (hlie9.imp id (fun e => by rw [e]; exact Nat.le_refl _)) hown9
      have hE9 : BX w9 E 71 _ := (hgrow9.block E (lt_of_block HMB.out.ed) (fun e => (HMB.out.tk_vs e.symm).2 rfl)).trans HMB.out.ed
      have hK9 : BX w9 K 51 _ := (hgrow9.block K (Nat.lt_of_lt_of_le HGL.out HBA.out.size) (fun e => HKG.out (Or.inr (Or.inr (Or.inr e.symm))))).trans HNB.out
      have HS9 := Lib.hid (show Tk3 E K (.slice tao ts.length tc) c v w9 from ⟨hE9.cell 2 rfl, hK9.cell 0 rfl, hK9.cell 1 rfl⟩)
      have y1 := hE9.cell 2 rfl
      have x1 := hE9.frozen 2
      have hKE : E ≠ K := fun e => HKG.out (Or.inl e.symm)
      have q0 : (w9.setCell ⟨E, 2, none⟩ (.slice (some ⟨g, 0, none⟩) (ts.length + 1) c9)).cell? ⟨K, 0, none⟩ = some (.int .i64 c) := BX.cell (cs := #[.int .i64 c, .int .u64 v]) ((Below.heap_setCell w9 ⟨E, 2, none⟩ _ K (fun e => hKE e.symm)).trans hK9) 0 rfl
      have HE := Lib.hid (show _ ∧ _ from ⟨hf9, (HT5.out.trans (Turn.of HBA.out)).trans ht9⟩)
      clear hf9 ht9 hE9 hK9 hown9 hgrow9 hlie9 hlt9
      refine hK.out _ _ (fun _ => HS9.out) ?_
      clear hK
      refine wpAnyS_ready [8] (by kernel_rfl) (by simp) ?_
      refine AllReadyS.cons rfl (fun K9 hK => ?_) AllReadyS.nil
      go_simp
      refine hK.out _ _ (fun _ => HS9.out) ?_
      clear hK K9
      refine wpAnyS_ready [9] (by kernel_rfl) (by simp) ?_
      refine AllReadyS.cons rfl (fun K9 hK => ?_) AllReadyS.nil
      go_simp
      refine hK.out _ _ (fun _ => HS9.out) ?_
      clear hK K9
      refine wpAnyS_ready [10] (by kernel_rfl) (by simp) ?_
      refine AllReadyS.cons rfl (fun K9 hK => ?_) AllReadyS.nil
      go_simp
      refine hK.out _ _ (fun h => absurd h (by decide)) ?_
      clear hK K9
      refine wpAnyS_done (by kernel_rfl) ?_ _
      go_wp2
      refine bodyPost_ret (v := .tuple #[.int .i64 c, .bool true]) (by simp [results, Try.results20, go_sem, *]) rfl ?_
      exact ⟨c, Or.inr ⟨rfl, _, k', m', _, HE.out.1, HE.out.2, HLT.out.1, HLT.out.2.1, by rw [HLT.out.2.1, HLT.out.2.2.1], HLT.out.2.2.2.1, HLT.out.2.2.2.2⟩⟩
end
end Go.Proofs.Ytdbklklmpnlinaa
