/- A box of eleven cells that is written whole. No condition. No walk. edit.lead: what a cell has ahead of a change. No condition but that there are few. edit.lead of a cell that is neither written nor a spare that was taken: what the view knows. Condition: its number is one. edit.change: one change more. Condition: the cell's number is one; there are few. -/
import Derived.Test.YtdbklklmpnlinaaFrDocs
import Derived.Test.YtdbklklmpnlinaaPg8
import Derived.Deep.RegionHeldLaw
import Derived.Deep.DeepCutAuto
namespace Go.Proofs.Ytdbklklmpnlinaa
open Go.RowKit

theorem bx_w11 {W : World} {g : Nat} {t : TypeId} {z0 z1 z2 z3 z4 z5 z6 z7 z8 z9 z10 : Value} (h : BX W g t #[z0, z1, z2, z3, z4, z5, z6, z7, z8, z9, z10]) (v0 v1 v2 v3 v4 v5 v6 v7 v8 v9 v10 : Value) : BX (((((((((((W.setCell ⟨g, 0, none⟩ v0).setCell ⟨g, 1, none⟩ v1).setCell ⟨g, 2, none⟩ v2).setCell ⟨g, 3, none⟩ v3).setCell ⟨g, 4, none⟩ v4).setCell ⟨g, 5, none⟩ v5).setCell ⟨g, 6, none⟩ v6).setCell ⟨g, 7, none⟩ v7).setCell ⟨g, 8, none⟩ v8).setCell ⟨g, 9, none⟩ v9).setCell ⟨g, 10, none⟩ v10) g t #[v0, v1, v2, v3, v4, v5, v6, v7, v8, v9, v10] := by
  have h0 := h.set 0 v0
  simp only [List.setIfInBounds_toArray, List.set_cons_zero] at h0
  have h1 := h0.set 1 v1
  simp only [List.setIfInBounds_toArray, List.set_cons_zero, List.set_cons_succ] at h1
  have h2 := h1.set 2 v2
  simp only [List.setIfInBounds_toArray, List.set_cons_zero, List.set_cons_succ] at h2
  have h3 := h2.set 3 v3
  simp only [List.setIfInBounds_toArray, List.set_cons_zero, List.set_cons_succ] at h3
  have h4 := h3.set 4 v4
  simp only [List.setIfInBounds_toArray, List.set_cons_zero, List.set_cons_succ] at h4
  have h5 := h4.set 5 v5
  simp only [List.setIfInBounds_toArray, List.set_cons_zero, List.set_cons_succ] at h5
  have h6 := h5.set 6 v6
  simp only [List.setIfInBounds_toArray, List.set_cons_zero, List.set_cons_succ] at h6
  have h7 := h6.set 7 v7
  simp only [List.setIfInBounds_toArray, List.set_cons_zero, List.set_cons_succ] at h7
  have h8 := h7.set 8 v8
  simp only [List.setIfInBounds_toArray, List.set_cons_zero, List.set_cons_succ] at h8
  have h9 := h8.set 9 v9
  simp only [List.setIfInBounds_toArray, List.set_cons_zero, List.set_cons_succ] at h9
  have h10 := h9.set 10 v10
  simp only [List.setIfInBounds_toArray, List.set_cons_zero, List.set_cons_succ] at h10
  exact h10
theorem turn_w11 (W : World) (g : Nat) (v0 v1 v2 v3 v4 v5 v6 v7 v8 v9 v10 : Value) : Turn (fun j => j = g) W (((((((((((W.setCell ⟨g, 0, none⟩ v0).setCell ⟨g, 1, none⟩ v1).setCell ⟨g, 2, none⟩ v2).setCell ⟨g, 3, none⟩ v3).setCell ⟨g, 4, none⟩ v4).setCell ⟨g, 5, none⟩ v5).setCell ⟨g, 6, none⟩ v6).setCell ⟨g, 7, none⟩ v7).setCell ⟨g, 8, none⟩ v8).setCell ⟨g, 9, none⟩ v9).setCell ⟨g, 10, none⟩ v10) :=
  Turn.setCell (S := fun j => j = g) (Turn.setCell (S := fun j => j = g) (Turn.setCell (S := fun j => j = g) (Turn.setCell (S := fun j => j = g) (Turn.setCell (S := fun j => j = g) (Turn.setCell (S := fun j => j = g) (Turn.setCell (S := fun j => j = g) (Turn.setCell (S := fun j => j = g) (Turn.setCell (S := fun j => j = g) (Turn.setCell (S := fun j => j = g) (Turn.setCell (S := fun j => j = g) (Turn.refl _ W) (Or.inl rfl) v0) (Or.inl rfl) v1) (Or.inl rfl) v2) (Or.inl rfl) v3) (Or.inl rfl) v4) (Or.inl rfl) v5) (Or.inl rfl) v6) (Or.inl rfl) v7) (Or.inl rfl) v8) (Or.inl rfl) v9) (Or.inl rfl) v10
end Go.Proofs.Ytdbklklmpnlinaa

namespace Go.Proofs.Ytdbklklmpnlinaa
open Go.RowKit Go.Maps

/-- A change's cells, its rows' values given. -/
def chA (x : Ch) (kv vv cv : Value) : Array Value := #[.int .i64 x.c, .int .i64 x.fr, .int .u64 x.wd, .int .u64 x.vr, .bool x.em, .bool x.li, .int .i64 x.n.lv, .string x.n.lo, .string x.n.hi, .bool x.n.la, .int .i64 x.n.nx, kv, vv, cv]
section
variable {B E A b N nc cc : Nat} {ao : Option Addr} {tv sv : Value} {ks : List Kn} {ss ts : List (Int × Int)} {k m : Int} {cs : List Ch}
theorem ES.aoIn {w : World} (h : ES w B E A b (.slice ao nc cc) tv sv N ks ss k m cs ts) : ∀ g o, ao = some ⟨g, o, none⟩ → g < w.heap.size ∧ ESet E A b (.slice ao nc cc) tv sv g := by
  rintro g o rfl
  obtain ⟨_, _, h2⟩ := h.ch
  rcases h2.2 with ⟨e, _⟩ | ⟨g', cap, cur, e, _, hg, _⟩
  · cases e
  · injection e with e _ _
    injection e with e
    injection e with e _ _
    subst e
    exact ⟨lt_of_block hg, Or.inr (Or.inr (Or.inl rfl))⟩
set_option maxHeartbeats 2000000 in
set_option maxRecDepth 100000 in
theorem lead_last (G j : Nat) (x : Ch) (kv vv cv : Value) (w : World) (h : ES w B E A b (.slice ao nc cc) tv sv N ks ss k m cs ts) (hG : ¬ ESet E A b (.slice ao nc cc) tv sv G) (hx : BX w G 97 (chA x kv vv cv)) (hj : lastC cs x.c cs.length = j) (hjl : j < cs.length) :
    Calls Try.prog 77 #[.pointer (some ⟨E, 0, none⟩), .pointer (some ⟨G, 0, none⟩)] w fun e w' => e = .returned (.bool true) ∧ BX w' G 97 (chA { x with fr := j, vr := IntKind.u64.wrap ((cAt cs j).vr + 1) } kv vv cv) ∧ Turn (fun g => g = G) w w' := by
  have hb1 := boxed_below w (.cells #[.pointer (some ⟨G, 0, none⟩)] 132)
  have n1 := BX.new w 132 #[.pointer (some ⟨G, 0, none⟩)]
  obtain ⟨S, hS⟩ : ∃ g, g = w.heap.size := ⟨_, rfl⟩
  rw [← hS] at n1
  obtain ⟨W1, hW1⟩ : ∃ W, W = w.alloc (.cells #[.pointer (some ⟨G, 0, none⟩)] 132) := ⟨_, rfl⟩
  rw [← hW1] at hb1 n1
  have h1 := h.keep hb1
  have hx1 := hx.below hb1
  have hao := h1.aoIn
  have hcs := h1.ch.ks
  have HL := Lib.hid (last_any E A ao nc cc tv x.c cs _ W1 h1.ed hcs (fun g o e => (hao g o e).1))
  rw [hj] at HL
  have hlen := hcs.len
  obtain ⟨g, o, ak, nk, ck, av, nv, cv2, ac, nn, cn, rfl, _, hc⟩ := hcs.get (j := j) (by omega)
  have hgG : ¬ g = G := fun e => hG (e ▸ (hao g o rfl).2)
  have hEG : ¬ E = G := fun e => hG (Or.inl e.symm)
  have hSG : ¬ S = G := fun e => by have := lt_of_block hx; omega
  have hgG' : ¬ G = g := fun e => hgG e.symm
  have hEG' : ¬ G = E := fun e => hEG e.symm
  have hSG' : ¬ G = S := fun e => hSG e.symm
  obtain ⟨vr, hvr⟩ : ∃ v, v = (cAt cs j).vr := ⟨_, rfl⟩
  have HC := Lib.hid (show ∀ V, Below W1.heap.size W1 V → V.cell? ⟨g, o + j * 14 + 3, none⟩ = some (.int .u64 vr) from fun V hV => by rw [hvr]; exact hc V hV 3 (by decide))
  rw [← hvr]
  have HH := Lib.hid h1
  have HN := Lib.hid n1
  have HXX := Lib.hid hx1
  have HB1 := Lib.hid hb1
  have HW := Lib.hid (show S = w.heap.size ∧ _ from ⟨hS, hW1⟩)
  have c0 : W1.cell? ⟨G, 0, none⟩ = some (.int .i64 x.c) := hx1.cell 0 rfl
  have k0 := n1.cell 0 rfl
  have hj' : (j : Int) < nc := by omega
  have hjn := bne_neg1 j
  clear hb1 n1 hS hW1 h h1 hx hx1 hcs hc hvr hG hao hj
  go_enter Try.func77, Try.ntmps77
  go_upto_region 1 with fail
  rw [← HW.out.1, ← HW.out.2]
  clear HW
  go_wp2_with fail
  refine HL.out.mono ?_
  rintro e w2 ⟨rfl, hb2⟩
  clear c0 k0
  have n2 := HN.out.below hb2
  have h2 := HH.out.keep hb2
  have x2 := HXX.out.below hb2
  have k0 := n2.cell 0 rfl
  have c1 := h2.ed.cell 1 rfl
  have q3 := HC.out w2 hb2
  have g1 : w2.cell? ⟨G, 1, none⟩ = some (.int .i64 x.fr) := x2.cell 1 rfl
  have g3 : w2.cell? ⟨G, 3, none⟩ = some (.int .u64 x.vr) := x2.cell 3 rfl
  have f1 := x2.frozen 1
  have f3 := x2.frozen 3
  have HX2 := Lib.hid x2
  have HB2 := Lib.hid (HB1.out.trans (hb2.mono HB1.out.size))
  clear n2 h2 x2 hb2
  go_upto_region 3 with fail
  go_region
  go_wp2
  go_ret
  refine ⟨rfl, (HX2.out.set 1 _).set 3 _, ?_⟩
  exact (Turn.setCell (S := fun j => j = G) (Turn.setCell (S := fun j => j = G) (Turn.of HB2.out) (Or.inl rfl) _) (Or.inl rfl) _).drew
theorem tk_form {w : World} {v : Value} (h : w.ownsRow B 51 2 v ts.length (spC ts)) : ∃ tao tc, v = .slice tao ts.length tc ∧ (∀ g o, tao = some ⟨g, o, none⟩ → v.ownBlock = some g) := by
  rcases h.2 with ⟨rfl, hz⟩ | ⟨g, cap, cur, rfl, _⟩
  · exact ⟨none, 0, by rw [hz], fun g o e => by cases e⟩
  · exact ⟨_, _, rfl, fun g' o e => by
      injection e with e
      injection e with e _ _
      rw [← e]; rfl⟩
theorem off_ch {w : World} {G : Nat} {c : Array Value} (hx : BX w G 97 c) : Off w (fun j => j = G) := fun g c2 t e hg => by
  rw [show g = G from e] at hg
  rw [hx.type9 hg]
  decide
set_option maxHeartbeats 2000000 in
set_option maxRecDepth 100000 in
theorem lead_spare (G i : Nat) (x : Ch) (kv vv cv : Value) (w : World) (h : ES w B E A b (.slice ao nc cc) tv sv N ks ss k m cs ts) (hG : ¬ ESet E A b (.slice ao nc cc) tv sv G) (hx : BX w G 97 (chA x kv vv cv)) (hj : lastC cs x.c cs.length = -1) (hi : i < ts.length) (hf : FirstS ts x.c i) :
    Calls Try.prog 77 #[.pointer (some ⟨E, 0, none⟩), .pointer (some ⟨G, 0, none⟩)] w fun e w' => e = .returned (.bool true) ∧ BX w' G 97 (chA { x with fr := -1, vr := (nts ts i).2 } kv vv cv) ∧ Turn (fun g => g = G) w w' := by
  have hb1 := boxed_below w (.cells #[.pointer (some ⟨G, 0, none⟩)] 132)
  have n1 := BX.new w 132 #[.pointer (some ⟨G, 0, none⟩)]
  obtain ⟨S, hS⟩ : ∃ g, g = w.heap.size := ⟨_, rfl⟩
  rw [← hS] at n1
  obtain ⟨W1, hW1⟩ : ∃ W, W = w.alloc (.cells #[.pointer (some ⟨G, 0, none⟩)] 132) := ⟨_, rfl⟩
  rw [← hW1] at hb1 n1
  have h1 := h.keep hb1
  have hx1 := hx.below hb1
  have hao := h1.aoIn
  have hcs := h1.ch.ks
  have HL := Lib.hid (last_any E A ao nc cc tv x.c cs _ W1 h1.ed hcs (fun g o e => (hao g o e).1))
  rw [hj] at HL
  obtain ⟨tao, tc, rfl, htb⟩ := tk_form h1.tk
  obtain ⟨g, o, rfl, _, _⟩ := (sp_at h1.tk rfl).get hi
  have hgs : ESet E A b (.slice ao nc cc) (.slice (some ⟨g, o, none⟩) ts.length tc) sv g := Or.inr (Or.inr (Or.inr (htb g o rfl)))
  have hgG : ¬ g = G := fun e => hG (e ▸ hgs)
  have hEG : ¬ E = G := fun e => hG (Or.inl e.symm)
  have hSG : ¬ S = G := fun e => by have := lt_of_block hx; omega
  have hgG' : ¬ G = g := fun e => hgG e.symm
  have hEG' : ¬ G = E := fun e => hEG e.symm
  have hSG' : ¬ G = S := fun e => hSG e.symm
  have HFI := Lib.hid (show ∀ z, FirstS ts x.c z → z = i from fun z hz => by
    rcases hz with ⟨h1, h2⟩ | ⟨l, h1, h2, h3, h4⟩
    · rcases hf with ⟨h5, _⟩ | ⟨l, h5, h6, h7, _⟩
      · omega
      · exact absurd h7 (h2 l h6)
    · rcases hf with ⟨h5, _⟩ | ⟨l2, h5, h6, h7, h8⟩
      · omega
      · have : l = l2 := by
          rcases Nat.lt_trichotomy l l2 with h | h | h
          · exact absurd h3 (h8 l h)
          · exact h
          · exact absurd h7 (h4 l2 h)
        omega)
  have htl : ts.length ≤ 9223372036854775807 := by have := (sp_at h1.tk rfl).len; omega
  have hi' : (i : Int) < ts.length := by omega
  have hi0 : (0 : Int) ≤ i := by omega
  have HH := Lib.hid h1
  have HN := Lib.hid n1
  have HXX := Lib.hid hx1
  have HB1 := Lib.hid hb1
  have HI := Lib.hid hi
  have HGE := Lib.hid hG
  have HW := Lib.hid (show S = w.heap.size ∧ _ from ⟨hS, hW1⟩)
  have c0 : W1.cell? ⟨G, 0, none⟩ = some (.int .i64 x.c) := hx1.cell 0 rfl
  have k0 := n1.cell 0 rfl
  clear hb1 n1 hS hW1 h h1 hx hx1 hcs hG hao hj hf htb hgs hi
  go_enter Try.func77, Try.ntmps77
  go_upto_region 1 with fail
  rw [← HW.out.1, ← HW.out.2]
  clear HW
  go_wp2_with fail
  refine HL.out.mono ?_
  rintro e w2 ⟨rfl, hb2⟩
  clear c0 k0
  have n2 := HN.out.below hb2
  have h2 := HH.out.keep hb2
  have x2 := HXX.out.below hb2
  obtain ⟨W3, hW3⟩ : ∃ W, W = w2.setCell ⟨G, 1, none⟩ (.int .i64 (-1)) := ⟨_, rfl⟩
  have t3 : Turn (fun j => j = G) w2 W3 := by rw [hW3]; exact Turn.setCell (S := fun j => j = G) (Turn.refl _ w2) (Or.inl rfl) _
  have x3 : BX W3 G 97 (chA { x with fr := -1 } kv vv cv) := by rw [hW3]; exact x2.set 1 _
  have h3 := h2.turn t3 (fun j hj e => HGE.out (e ▸ hj)) (off_ch x2)
  have n3 : BX W3 S 132 #[.pointer (some ⟨G, 0, none⟩)] := (t3.block S (lt_of_block n2) hSG).trans n2
  have HID := Lib.hid (idxLead_any (some ⟨g, o, none⟩) ts.length tc x.c S G ts W3 (sp_at h3.tk rfl) (n3.cell 0 rfl) (x3.cell 0 rfl))
  have k0 := n2.cell 0 rfl
  have g1 : w2.cell? ⟨G, 1, none⟩ = some (.int .i64 x.fr) := x2.cell 1 rfl
  have f1 := x2.frozen 1
  have c3 : W3.cell? ⟨E, 2, none⟩ = some (.slice (some ⟨g, o, none⟩) ts.length tc) := h3.ed.cell 2 rfl
  have H3 := Lib.hid h3
  have N3 := Lib.hid n3
  have X3 := Lib.hid x3
  have T3 := Lib.hid ((Turn.of (S := fun j => j = G) (HB1.out.trans (hb2.mono HB1.out.size))).trans t3)
  have HW3 := Lib.hid hW3
  clear n2 h2 x2 hb2 hW3 t3 x3 h3 n3
  go_upto_region 6 with fail
  rw [← HW3.out]
  clear k0 g1 f1
  go_wp2_with fail
  refine HID.out.mono ?_
  rintro e w4 ⟨z, rfl, hz, hb4⟩
  have hzi := HFI.out z hz
  subst hzi
  clear hz c3
  have n4 := N3.out.below hb4
  have h4 := H3.out.keep hb4
  have x4 := X3.out.below hb4
  have hq := (sp_at h4.tk rfl).get HI.out
  obtain ⟨_, _, e9, _, q1⟩ := hq
  injection e9 with e9
  injection e9 with e91 e92 _
  subst e91 e92
  have k0 := n4.cell 0 rfl
  have c3 : w4.cell? ⟨E, 2, none⟩ = some (.slice (some ⟨g, o, none⟩) ts.length tc) := h4.ed.cell 2 rfl
  have g3 : w4.cell? ⟨G, 3, none⟩ = some (.int .u64 x.vr) := x4.cell 3 rfl
  have f3 := x4.frozen 3
  have X4 := Lib.hid x4
  have T4 := Lib.hid (T3.out.trans (Turn.of hb4))
  clear n4 h4 x4 hb4
  go_upto_region 8 with fail
  go_region
  go_wp2
  go_ret
  exact ⟨rfl, X4.out.set 3 _, (Turn.setCell (S := fun j => j = G) T4.out (Or.inl rfl) _).drew⟩
end
end Go.Proofs.Ytdbklklmpnlinaa

namespace Go.Proofs.Ytdbklklmpnlinaa
open Go.RowKit Go.Maps

section
variable {B E A b N nc cc : Nat} {ao : Option Addr} {tv sv : Value} {ks : List Kn} {ss ts : List (Int × Int)} {k m : Int} {cs : List Ch}
/-- A known's cells, its rows' values given. -/
def knC (y : Kn) (kv vv cv : Value) : Array Value := #[.int .i64 y.c, .int .u64 y.wd, .int .u64 y.vr, .int .i64 y.n.lv, .string y.n.lo, .string y.n.hi, .bool y.n.la, .int .i64 y.n.nx, kv, vv, cv]
/-- What a view told of a cell. -/
def AtIs (w : World) (B : Nat) (ks : List Kn) (c k m : Int) (y : Kn) (kv vv cv : Value) (r : Bool) (k' m' : Int) : Prop :=
  (r = true ∧ kfind ks c = some y ∧ k' = k ∧ m' = m ∧ KnO w B (y.val kv vv cv) y) ∨ (r = false ∧ kfind ks c = none ∧ y = Kn.zero ∧ kv = .slice none 0 0 ∧ vv = .slice none 0 0 ∧ cv = .slice none 0 0 ∧ k' = lackK k (cellB c) 1 ∧ m' = lackM k m (cellB c) c)
theorem at_both (c : Int) (w : World) (hc : (Lit.int .i64 c).wf = true) (h : FV w B A b sv N ks ss k m) :
    Calls Try.prog 46 #[.pointer (some ⟨A, 0, none⟩), .int .i64 c] w fun e w' => ∃ (y : Kn) (ak : Option Addr) (nk ck : Nat) (av : Option Addr) (nv cv : Nat) (ac : Option Addr) (nn cn : Nat) (r : Bool) (k' m' : Int), e = .returned (.tuple #[.agg #[.int .i64 y.c, .int .u64 y.wd, .int .u64 y.vr, .int .i64 y.n.lv, .string y.n.lo, .string y.n.hi, .bool y.n.la, .int .i64 y.n.nx, .slice ak nk ck, .slice av nv cv, .slice ac nn cn], .bool r]) ∧ FV w' B A b sv N ks ss k' m' ∧ Turn (VS A b sv) w w' ∧ AtIs w' B ks c k m y (.slice ak nk ck) (.slice av nv cv) (.slice ac nn cn) r k' m' := by
  cases hk : kfind ks c with
  | none =>
    refine (at_miss c w hc h hk).mono ?_
    rintro e w' ⟨rfl, hf, ht⟩
    exact ⟨Kn.zero, none, 0, 0, none, 0, 0, none, 0, 0, false, _, _, rfl, hf, ht, Or.inr ⟨rfl, hk, rfl, rfl, rfl, rfl, rfl, rfl⟩⟩
  | some y =>
    refine (at_hit c w hc h hk).mono ?_
    rintro e w' ⟨⟨v, rfl, hv⟩, hf, hb⟩
    obtain ⟨kv, vv, cv, rfl, o1, o2, o3⟩ := id hv
    obtain ⟨ak, ck, rfl⟩ := o1.open
    obtain ⟨av, cv', rfl⟩ := o2.open
    obtain ⟨ac, cc', rfl⟩ := o3.open
    exact ⟨y, _, _, _, _, _, _, _, _, _, true, _, _, rfl, hf, Turn.of hb, Or.inl ⟨rfl, hk, rfl, rfl, hv⟩⟩
/-- Behind the view's telling: its answer in a box. -/
structure LV (W wx : World) (B A b N : Nat) (sv : Value) (ks : List Kn) (ss : List (Int × Int)) (k m c : Int) (K : Nat) (y : Kn) (kv vv cv : Value) (r : Bool) (k' m' : Int) : Prop where
  bx : BX wx K 43 (knC y kv vv cv)
  fv : FV wx B A b sv N ks ss k' m'
  tn : Turn (VS A b sv) W wx
  is : AtIs wx B ks c k m y kv vv cv r k' m'
  ge : W.heap.size ≤ K
theorem AtIs.turn {w w' : World} {S : Nat → Prop} {c : Int} {y : Kn} {kv vv cv : Value} {r : Bool} {k' m' : Int} (h : AtIs w B ks c k m y kv vv cv r k' m') (hS : Off w S) (ht : Turn S w w') : AtIs w' B ks c k m y kv vv cv r k' m' := by
  rcases h with ⟨h1, h2, h3, h4, h5⟩ | h
  · exact Or.inl ⟨h1, h2, h3, h4, h5.turn hS ht⟩
  · exact Or.inr h
theorem off_none (w : World) : Off w (fun _ => False) := fun _ _ _ h _ => h.elim
theorem lv_new {W wa : World} {c : Int} {y : Kn} {kv vv cv : Value} {r : Bool} {k' m' : Int} (hf : FV wa B A b sv N ks ss k' m') (ht : Turn (VS A b sv) W wa) (hi : AtIs wa B ks c k m y kv vv cv r k' m') : LV W (wa.alloc (.cells #[.int .i64 y.c, .int .u64 y.wd, .int .u64 y.vr, .int .i64 y.n.lv, .string y.n.lo, .string y.n.hi, .bool y.n.la, .int .i64 y.n.nx, kv, vv, cv] 43)) B A b N sv ks ss k m c wa.heap.size y kv vv cv r k' m' := by
  have hb := boxed_below wa (.cells #[.int .i64 y.c, .int .u64 y.wd, .int .u64 y.vr, .int .i64 y.n.lv, .string y.n.lo, .string y.n.hi, .bool y.n.la, .int .i64 y.n.nx, kv, vv, cv] 43)
  exact ⟨BX.new wa _ _, hf.keep hb, ht.alloc _, hi.turn (off_none _) (Turn.of hb), ht.size⟩
theorem lv_set {W wa : World} {c : Int} {K : Nat} {y : Kn} {kv vv cv : Value} {r : Bool} {k' m' : Int} {z0 z1 z2 z3 z4 z5 z6 z7 z8 z9 z10 : Value} (hK : BX wa K 43 #[z0, z1, z2, z3, z4, z5, z6, z7, z8, z9, z10]) (hge : W.heap.size ≤ K) (hvs : ∀ j, VS A b sv j → j < W.heap.size) (hf : FV wa B A b sv N ks ss k' m') (ht : Turn (VS A b sv) W wa) (hi : AtIs wa B ks c k m y kv vv cv r k' m') :
    LV W (((((((((((wa.setCell ⟨K, 0, none⟩ (.int .i64 y.c)).setCell ⟨K, 1, none⟩ (.int .u64 y.wd)).setCell ⟨K, 2, none⟩ (.int .u64 y.vr)).setCell ⟨K, 3, none⟩ (.int .i64 y.n.lv)).setCell ⟨K, 4, none⟩ (.string y.n.lo)).setCell ⟨K, 5, none⟩ (.string y.n.hi)).setCell ⟨K, 6, none⟩ (.bool y.n.la)).setCell ⟨K, 7, none⟩ (.int .i64 y.n.nx)).setCell ⟨K, 8, none⟩ kv).setCell ⟨K, 9, none⟩ vv).setCell ⟨K, 10, none⟩ cv) B A b N sv ks ss k m c K y kv vv cv r k' m' := by
  have ht2 := turn_w11 wa K (.int .i64 y.c) (.int .u64 y.wd) (.int .u64 y.vr) (.int .i64 y.n.lv) (.string y.n.lo) (.string y.n.hi) (.bool y.n.la) (.int .i64 y.n.nx) kv vv cv
  have hoff : Off wa (fun j => j = K) := fun g c2 t e hg => by
    rw [show g = K from e] at hg
    rw [hK.type9 hg]
    decide
  exact ⟨bx_w11 hK _ _ _ _ _ _ _ _ _ _ _, hf.turn ht2 (fun j hj e => by have := hvs j hj; have e' : j = K := e; omega) hoff, ht.through ht2 (fun j e => by rw [show j = K from e]; exact hge), hi.turn hoff ht2, hge⟩
set_option maxHeartbeats 4000000 in
set_option maxRecDepth 100000 in
theorem lead_view (G : Nat) (x : Ch) (kv vv cv : Value) (w : World) (h : ES w B E A b (.slice ao nc cc) tv sv N ks ss k m cs ts) (hG : ¬ ESet E A b (.slice ao nc cc) tv sv G) (hx : BX w G 97 (chA x kv vv cv)) (hwf : (Lit.int .i64 x.c).wf = true) (hj : lastC cs x.c cs.length = -1) (hf : FirstS ts x.c (-1)) :
    Calls Try.prog 77 #[.pointer (some ⟨E, 0, none⟩), .pointer (some ⟨G, 0, none⟩)] w fun e w' => ∃ (y : Kn) (kv2 vv2 cv2 : Value) (r : Bool) (k' m' : Int), e = .returned (.bool r) ∧ BX w' G 97 (chA { x with fr := -1, wd := y.wd, vr := y.vr } kv vv cv) ∧ ES w' B E A b (.slice ao nc cc) tv sv N ks ss k' m' cs ts ∧ Turn (fun g => g = G ∨ VS A b sv g) w w' ∧ AtIs w' B ks x.c k m y kv2 vv2 cv2 r k' m' := by
  have hb1 := boxed_below w (.cells #[.pointer (some ⟨G, 0, none⟩)] 132)
  have n1 := BX.new w 132 #[.pointer (some ⟨G, 0, none⟩)]
  obtain ⟨S, hS⟩ : ∃ g, g = w.heap.size := ⟨_, rfl⟩
  rw [← hS] at n1
  obtain ⟨W1, hW1⟩ : ∃ W, W = w.alloc (.cells #[.pointer (some ⟨G, 0, none⟩)] 132) := ⟨_, rfl⟩
  rw [← hW1] at hb1 n1
  have h1 := h.keep hb1
  have hx1 := hx.below hb1
  have hao := h1.aoIn
  have hcs := h1.ch.ks
  have HL := Lib.hid (last_any E A ao nc cc tv x.c cs _ W1 h1.ed hcs (fun g o e => (hao g o e).1))
  rw [hj] at HL
  obtain ⟨tao, tc, rfl, _⟩ := tk_form h1.tk
  have hEG : ¬ E = G := fun e => hG (Or.inl e.symm)
  have hSG : ¬ S = G := fun e => by have := lt_of_block hx; omega
  have hEG' : ¬ G = E := fun e => hEG e.symm
  have hSG' : ¬ G = S := fun e => hSG e.symm
  have HFI := Lib.hid (show ∀ z, FirstS ts x.c z → z = -1 from fun z hz => by
    rcases hz with ⟨h1, _⟩ | ⟨l, h1, h2, h3, _⟩
    · exact h1
    · rcases hf with ⟨_, h6⟩ | ⟨l2, h5, _⟩
      · exact absurd h3 (h6 l h2)
      · omega)
  have HH := Lib.hid h1
  have HN := Lib.hid n1
  have HXX := Lib.hid hx1
  have HB1 := Lib.hid hb1
  have HGE := Lib.hid hG
  have HWF := Lib.hid hwf
  have HSV := Lib.hid (show ¬ VS A b sv S from fun e => by have := h.lt S (Or.inr (Or.inl e)); omega)
  have HW := Lib.hid (show S = w.heap.size ∧ _ from ⟨hS, hW1⟩)
  have c0 : W1.cell? ⟨G, 0, none⟩ = some (.int .i64 x.c) := hx1.cell 0 rfl
  have k0 := n1.cell 0 rfl
  clear hb1 n1 hS hW1 h h1 hx hx1 hcs hG hao hj hf hwf
  go_enter Try.func77, Try.ntmps77
  go_upto_region 1 with fail
  rw [← HW.out.1, ← HW.out.2]
  clear HW
  go_wp2_with fail
  refine HL.out.mono ?_
  rintro e w2 ⟨rfl, hb2⟩
  clear c0 k0
  have n2 := HN.out.below hb2
  have h2 := HH.out.keep hb2
  have x2 := HXX.out.below hb2
  obtain ⟨W3, hW3⟩ : ∃ W, W = w2.setCell ⟨G, 1, none⟩ (.int .i64 (-1)) := ⟨_, rfl⟩
  have t3 : Turn (fun j => j = G) w2 W3 := by rw [hW3]; exact Turn.setCell (S := fun j => j = G) (Turn.refl _ w2) (Or.inl rfl) _
  have x3 : BX W3 G 97 (chA { x with fr := -1 } kv vv cv) := by rw [hW3]; exact x2.set 1 _
  have h3 := h2.turn t3 (fun j hj e => HGE.out (e ▸ hj)) (off_ch x2)
  have n3 : BX W3 S 132 #[.pointer (some ⟨G, 0, none⟩)] := (t3.block S (lt_of_block n2) hSG).trans n2
  have HID := Lib.hid (idxLead_any tao ts.length tc x.c S G ts W3 (sp_at h3.tk rfl) (n3.cell 0 rfl) (x3.cell 0 rfl))
  have k0 := n2.cell 0 rfl
  have g1 : w2.cell? ⟨G, 1, none⟩ = some (.int .i64 x.fr) := x2.cell 1 rfl
  have f1 := x2.frozen 1
  have c3 : W3.cell? ⟨E, 2, none⟩ = some (.slice tao ts.length tc) := h3.ed.cell 2 rfl
  have H3 := Lib.hid h3
  have N3 := Lib.hid n3
  have X3 := Lib.hid x3
  have T3 := Lib.hid ((Turn.of (S := fun j => j = G) (HB1.out.trans (hb2.mono HB1.out.size))).trans t3)
  have HW3 := Lib.hid hW3
  clear n2 h2 x2 hb2 hW3 t3 x3 h3 n3
  go_upto_region 6 with fail
  rw [← HW3.out]
  clear k0 g1 f1
  go_wp2_with fail
  refine HID.out.mono ?_
  rintro e w4 ⟨z, rfl, hz, hb4⟩
  have hzi := HFI.out z hz
  subst hzi
  clear hz c3
  have n4 := N3.out.below hb4
  have h4 := H3.out.keep hb4
  have x4 := X3.out.below hb4
  have k0 := n4.cell 0 rfl
  have c1 : w4.cell? ⟨E, 0, none⟩ = some (.pointer (some ⟨A, 0, none⟩)) := h4.ed.cell 0 rfl
  have g0 : w4.cell? ⟨G, 0, none⟩ = some (.int .i64 x.c) := x4.cell 0 rfl
  have X4 := Lib.hid x4
  have N4 := Lib.hid n4
  have H4 := Lib.hid h4
  have HVS := Lib.hid (show ∀ j, VS A b sv j → j < w4.heap.size from fun j hj => h4.lt j (Or.inr (Or.inl hj)))
  have T4 := Lib.hid (T3.out.trans (Turn.of hb4))
  have HAT := Lib.hid (fun W (hb : Below w4.heap.size w4 W) => at_both x.c W HWF.out (H4.out.fv.keep hb))
  have hS4 : w4.drew.cell? ⟨E, 0, none⟩ = some (.pointer (some ⟨A, 0, none⟩)) ∧ w4.drew.cell? ⟨S, 0, none⟩ = some (.pointer (some ⟨G, 0, none⟩)) ∧ w4.drew.cell? ⟨G, 0, none⟩ = some (.int .i64 x.c) := ⟨c1, k0, g0⟩
  have HKE : Hid (∀ V, Turn (VS A b sv) w4 V → V.cell? ⟨E, 0, none⟩ = some (.pointer (some ⟨A, 0, none⟩)) ∧ V.cell? ⟨S, 0, none⟩ = some (.pointer (some ⟨G, 0, none⟩)) ∧ V.cell? ⟨G, 0, none⟩ = some (.int .i64 x.c)) := Lib.hid (fun V hV =>
    ⟨BX.cell (cs := #[.pointer (some ⟨A, 0, none⟩), .slice ao nc cc, .slice tao ts.length tc]) ((hV.block E (lt_of_block H4.out.ed) H4.out.not_vs).trans H4.out.ed) 0 rfl, BX.cell (cs := #[.pointer (some ⟨G, 0, none⟩)]) ((hV.block S (lt_of_block N4.out) HSV.out).trans N4.out) 0 rfl, BX.cell (cs := chA { x with fr := -1 } kv vv cv) ((hV.block G (lt_of_block X4.out) (fun e => HGE.out (Or.inr (Or.inl e)))).trans X4.out) 0 rfl⟩)
  clear n4 h4 x4 hb4
  go_upto_region 10 with fail
  go_cut [7, 8] (fun s7 s8 wx => ∃ (K : Nat) (y : Kn) (kv2 vv2 cv2 : Value) (r : Bool) (k' m' : Int), s7 = .pointer (some ⟨K, 0, none⟩) ∧ s8 = .bool r ∧ Hid (LV w4 wx B A b N sv ks ss k m x.c K y kv2 vv2 cv2 r k' m'))
  case first =>
    go_region_held_law (fun V => V.cell? ⟨E, 0, none⟩ = some (.pointer (some ⟨A, 0, none⟩)) ∧ V.cell? ⟨S, 0, none⟩ = some (.pointer (some ⟨G, 0, none⟩)) ∧ V.cell? ⟨G, 0, none⟩ = some (.int .i64 x.c))
      (first | (with_reducible exact hS4) | (refine HKE.out _ ?_; repeat' (first | (with_reducible exact HTA.out) | (with_reducible exact Turn.refl _ _) | (with_reducible refine Turn.drew ?_) | (with_reducible refine Turn.alloc ?_ _) | (with_reducible refine Turn.setCell ?_ (Or.inr (Nat.le_refl _)) _))))
      (first
        | (go_at_call 46; refine (HAT.out _ (by first | exact (Below.refl _ _).drew | exact (Below.refl w4.heap.size w4).drew.alloc (Nat.le_refl _) _ | exact ((Below.refl w4.heap.size w4).alloc (Nat.le_refl _) _).drew)).mono ?_; rintro e wa ⟨y, ak2, nk2, ck2, av2, nv2, cw2, ac2, nn2, cn2, r, k', m', rfl, hfa, hta, hia⟩; (first | (have HTA : Hid (Turn (VS A b sv) w4 wa) := Lib.hid (Turn.trans (Turn.drew (Turn.refl _ w4)) hta)) | (have HTA : Hid (Turn (VS A b sv) w4 wa) := Lib.hid (Turn.trans (Turn.alloc (Turn.drew (Turn.refl _ w4)) (.cells #[.int .i64 0, .int .u64 0, .int .u64 0, .int .i64 0, .string ⟨#[]⟩, .string ⟨#[]⟩, .bool false, .int .i64 0, .slice none 0 0, .slice none 0 0, .slice none 0 0] 43)) hta)) | (have HTA : Hid (Turn (VS A b sv) w4 wa) := Lib.hid (Turn.trans (Turn.drew (Turn.alloc (Turn.refl _ w4) (.cells #[.int .i64 0, .int .u64 0, .int .u64 0, .int .i64 0, .string ⟨#[]⟩, .string ⟨#[]⟩, .bool false, .int .i64 0, .slice none 0 0, .slice none 0 0, .slice none 0 0] 43))) hta))); (first | (have HP : Hid (BX wa w4.heap.size 43 #[.int .i64 0, .int .u64 0, .int .u64 0, .int .i64 0, .string ⟨#[]⟩, .string ⟨#[]⟩, .bool false, .int .i64 0, .slice none 0 0, .slice none 0 0, .slice none 0 0]) := Lib.hid ((hta.block w4.heap.size (lt_of_block (BX.new w4.drew 43 #[.int .i64 0, .int .u64 0, .int .u64 0, .int .i64 0, .string ⟨#[]⟩, .string ⟨#[]⟩, .bool false, .int .i64 0, .slice none 0 0, .slice none 0 0, .slice none 0 0])) (fun e => absurd (HVS.out _ e) (Nat.lt_irrefl _))).trans (BX.new w4.drew 43 #[.int .i64 0, .int .u64 0, .int .u64 0, .int .i64 0, .string ⟨#[]⟩, .string ⟨#[]⟩, .bool false, .int .i64 0, .slice none 0 0, .slice none 0 0, .slice none 0 0])); have z0 := HP.out.cell 0 rfl; have z1 := HP.out.cell 1 rfl; have z2 := HP.out.cell 2 rfl; have z3 := HP.out.cell 3 rfl; have z4 := HP.out.cell 4 rfl; have z5 := HP.out.cell 5 rfl; have z6 := HP.out.cell 6 rfl; have z7 := HP.out.cell 7 rfl; have z8 := HP.out.cell 8 rfl; have z9 := HP.out.cell 9 rfl; have z10 := HP.out.cell 10 rfl; have y0 := HP.out.frozen 0; have y1 := HP.out.frozen 1; have y2 := HP.out.frozen 2; have y3 := HP.out.frozen 3; have y4 := HP.out.frozen 4; have y5 := HP.out.frozen 5; have y6 := HP.out.frozen 6; have y7 := HP.out.frozen 7; have y8 := HP.out.frozen 8; have y9 := HP.out.frozen 9; have y10 := HP.out.frozen 10) | skip); have HFA := Lib.hid hfa; have HIA := Lib.hid hia; clear hfa hta hia))
    all_goals first | go_meet | (go_step; go_meet) | (go_wp2_with fail; go_meet)
    all_goals refine ⟨_, y, .slice ak2 nk2 ck2, .slice av2 nv2 cw2, .slice ac2 nn2 cn2, r, k', m', rfl, rfl, Lib.hid ?_⟩
    all_goals first | (with_reducible exact lv_new HFA.out HTA.out HIA.out) | exact lv_set HP.out (Nat.le_refl _) HVS.out HFA.out HTA.out HIA.out
  case rest =>
    obtain ⟨K, y, kv2, vv2, cv2, r, k', m', rfl, rfl, HV⟩ := hcut
    have hv := HV.out
    have nS : BX wc S 132 #[.pointer (some ⟨G, 0, none⟩)] := (hv.tn.block S (lt_of_block N4.out) HSV.out).trans N4.out
    have nG : BX wc G 97 (chA { x with fr := -1 } kv vv cv) := (hv.tn.block G (lt_of_block X4.out) (fun e => HGE.out (Or.inr (Or.inl e)))).trans X4.out
    have hKG : ¬ K = G := fun e => by have := lt_of_block X4.out; have := hv.ge; omega
    have hKG' : ¬ G = K := fun e => hKG e.symm
    have s0 := nS.cell 0 rfl
    have p1 : wc.cell? ⟨K, 1, none⟩ = some (.int .u64 y.wd) := hv.bx.cell 1 rfl
    have p2 : wc.cell? ⟨K, 2, none⟩ = some (.int .u64 y.vr) := hv.bx.cell 2 rfl
    have g2 : wc.cell? ⟨G, 2, none⟩ = some (.int .u64 x.wd) := nG.cell 2 rfl
    have g3 : wc.cell? ⟨G, 3, none⟩ = some (.int .u64 x.vr) := nG.cell 3 rfl
    have f2 := nG.frozen 2
    have f3 := nG.frozen 3
    have NG := Lib.hid nG
    have HES := Lib.hid (H4.out.view hv.fv hv.tn)
    clear hv nS nG hS4 k0 c1 g0
    go_upto_region 11 with fail
    go_region
    go_wp2
    go_ret
    have hn2 := (NG.out.set 2 (.int .u64 y.wd)).set 3 (.int .u64 y.vr)
    have ht2 : Turn (fun j => j = G) wc (((wc.setCell ⟨G, 2, none⟩ (.int .u64 y.wd)).setCell ⟨G, 3, none⟩ (.int .u64 y.vr)).drew) := (Turn.setCell (S := fun j => j = G) (Turn.setCell (S := fun j => j = G) (Turn.refl _ wc) (Or.inl rfl) _) (Or.inl rfl) _).drew
    have hS1 : Turn (fun g => g = G ∨ VS A b sv g) w w4 := T4.out.mono (fun g _ e => Or.inl e)
    have hS2 : Turn (fun g => g = G ∨ VS A b sv g) w4 wc := HV.out.tn.mono (fun g _ e => Or.inr e)
    have hS3 : Turn (fun g => g = G ∨ VS A b sv g) wc _ := ht2.mono (fun g _ e => Or.inl e)
    exact ⟨y, kv2, vv2, cv2, r, k', m', rfl, hn2, HES.out.turn ht2 (fun j hj e => HGE.out (e ▸ hj)) (off_ch NG.out), (hS1.trans hS2).trans hS3, HV.out.is.turn (off_ch NG.out) ht2⟩
end
end Go.Proofs.Ytdbklklmpnlinaa

namespace Go.Proofs.Ytdbklklmpnlinaa
open Go.RowKit Go.Maps

/-- What a cell has ahead of a change: of the last change of it; a spare's; the view's, if it knows it. -/
def LeadIs (ks : List Kn) (ts : List (Int × Int)) (cs : List Ch) (k m : Int) (x : Ch) (r : Bool) (x' : Ch) (k' m' : Int) : Prop :=
  (∃ j : Nat, j < cs.length ∧ lastC cs x.c cs.length = j ∧ r = true ∧ x' = { x with fr := j, vr := IntKind.u64.wrap ((cAt cs j).vr + 1) } ∧ k' = k ∧ m' = m) ∨
  (lastC cs x.c cs.length = -1 ∧ ∃ i : Nat, i < ts.length ∧ FirstS ts x.c i ∧ r = true ∧ x' = { x with fr := -1, vr := (nts ts i).2 } ∧ k' = k ∧ m' = m) ∨
  (lastC cs x.c cs.length = -1 ∧ FirstS ts x.c (-1) ∧ ((∃ y, kfind ks x.c = some y ∧ r = true ∧ x' = { x with fr := -1, wd := y.wd, vr := y.vr } ∧ k' = k ∧ m' = m) ∨ (kfind ks x.c = none ∧ r = false ∧ x' = { x with fr := -1, wd := 0, vr := 0 } ∧ k' = lackK k (cellB x.c) 1 ∧ m' = lackM k m (cellB x.c) x.c)))
theorem LeadIs.same {ks : List Kn} {ts : List (Int × Int)} {cs : List Ch} {k m : Int} {x : Ch} {r : Bool} {x' : Ch} {k' m' : Int} (h : LeadIs ks ts cs k m x r x' k' m') : x'.c = x.c ∧ x'.em = x.em ∧ x'.li = x.li ∧ x'.n = x.n := by
  rcases h with ⟨j, _, _, _, rfl, _⟩ | ⟨_, i, _, _, _, rfl, _⟩ | ⟨_, _, ⟨y, _, _, rfl, _⟩ | ⟨_, _, rfl, _⟩⟩ <;> exact ⟨rfl, rfl, rfl, rfl⟩
theorem firstS_has (ts : List (Int × Int)) (c : Int) : ∃ z, FirstS ts c z := by
  have : ∀ n, n ≤ ts.length → (∀ j, j < n → (nts ts j).1 ≠ c) ∨ ∃ i : Nat, i < ts.length ∧ (nts ts i).1 = c ∧ ∀ j, j < i → (nts ts j).1 ≠ c := by
    intro n
    induction n with
    | zero => exact fun _ => Or.inl (fun j hj => absurd hj (Nat.not_lt_zero _))
    | succ n ih =>
      intro hn
      rcases ih (by omega) with h | h
      · by_cases e : (nts ts n).1 = c
        · exact Or.inr ⟨n, by omega, e, h⟩
        · refine Or.inl (fun j hj => ?_)
          by_cases e2 : j = n
          · rw [e2]; exact e
          · exact h j (by omega)
      · exact Or.inr h
  rcases this ts.length (Nat.le_refl _) with h | ⟨i, h1, h2, h3⟩
  · exact ⟨-1, Or.inl ⟨rfl, h⟩⟩
  · exact ⟨i, Or.inr ⟨i, rfl, h1, h2, h3⟩⟩
section
variable {B E A b N nc cc : Nat} {ao : Option Addr} {tv sv : Value} {ks : List Kn} {ss ts : List (Int × Int)} {k m : Int} {cs : List Ch}
theorem lead_any (G : Nat) (x : Ch) (kv vv cv : Value) (w : World) (h : ES w B E A b (.slice ao nc cc) tv sv N ks ss k m cs ts) (hG : ¬ ESet E A b (.slice ao nc cc) tv sv G) (hx : BX w G 97 (chA x kv vv cv)) (hwf : (Lit.int .i64 x.c).wf = true) :
    Calls Try.prog 77 #[.pointer (some ⟨E, 0, none⟩), .pointer (some ⟨G, 0, none⟩)] w fun e w' => ∃ (r : Bool) (x' : Ch) (k' m' : Int), e = .returned (.bool r) ∧ BX w' G 97 (chA x' kv vv cv) ∧ ES w' B E A b (.slice ao nc cc) tv sv N ks ss k' m' cs ts ∧ Turn (fun g => g = G ∨ VS A b sv g) w w' ∧ LeadIs ks ts cs k m x r x' k' m' := by
  have hd : ∀ j, ESet E A b (.slice ao nc cc) tv sv j → ¬ (j = G) := fun j hj e => hG (e ▸ hj)
  rcases lastC_is cs x.c cs.length with ⟨h1, _⟩ | ⟨j, h1, h2, _⟩
  · obtain ⟨z, hz⟩ := firstS_has ts x.c
    rcases id hz with ⟨rfl, _⟩ | ⟨i, rfl, hi, _⟩
    · refine (lead_view G x kv vv cv w h hG hx hwf h1 hz).mono ?_
      rintro e w' ⟨y, kv2, vv2, cv2, r, k', m', rfl, hb, hes, ht, his⟩
      refine ⟨r, _, k', m', rfl, hb, hes, ht, Or.inr (Or.inr ⟨h1, hz, ?_⟩)⟩
      rcases his with ⟨e1, e2, e3, e4, _⟩ | ⟨e1, e2, e3, _, _, _, e4, e5⟩
      · exact Or.inl ⟨y, e2, e1, rfl, e3, e4⟩
      · subst e3
        exact Or.inr ⟨e2, e1, rfl, e4, e5⟩
    · refine (lead_spare G i x kv vv cv w h hG hx h1 hi hz).mono ?_
      rintro e w' ⟨rfl, hb, ht⟩
      exact ⟨true, _, k, m, rfl, hb, h.turn ht hd (off_ch hx), ht.mono (fun _ _ e => Or.inl e), Or.inr (Or.inl ⟨h1, i, hi, hz, rfl, rfl, rfl, rfl⟩)⟩
  · refine (lead_last G j x kv vv cv w h hG hx h1 h2).mono ?_
    rintro e w' ⟨rfl, hb, ht⟩
    exact ⟨true, _, k, m, rfl, hb, h.turn ht hd (off_ch hx), ht.mono (fun _ _ e => Or.inl e), Or.inl ⟨j, h2, h1, rfl, rfl, rfl, rfl⟩⟩
/-- What becomes of the changes, and of what the view lacks, by one change more. -/
def ChIs (ks : List Kn) (ts : List (Int × Int)) (cs : List Ch) (k m : Int) (x : Ch) (r : Bool) (cs' : List Ch) (k' m' : Int) : Prop :=
  ((clearedB cs x.c = true ∨ 46 ≤ cs.length) ∧ r = false ∧ cs' = cs ∧ k' = lackK k false 0 ∧ m' = lackM k m false 0) ∨
  (clearedB cs x.c = false ∧ cs.length < 46 ∧ ∃ x', LeadIs ks ts cs k m x r x' k' m' ∧ cs' = if r = true then cs ++ [x'] else cs)
/-- The cells that change's append loads. -/
def Ch3 (E G : Nat) (cv : Value) (x : Ch) (kv vv cw : Value) (V : World) : Prop := V.cell? ⟨E, 1, none⟩ = some cv ∧ V.cell? ⟨G, 0, none⟩ = some (.int .i64 x.c) ∧ V.cell? ⟨G, 1, none⟩ = some (.int .i64 x.fr) ∧ V.cell? ⟨G, 2, none⟩ = some (.int .u64 x.wd) ∧ V.cell? ⟨G, 3, none⟩ = some (.int .u64 x.vr) ∧ V.cell? ⟨G, 4, none⟩ = some (.bool x.em) ∧ V.cell? ⟨G, 5, none⟩ = some (.bool x.li) ∧ V.cell? ⟨G, 6, none⟩ = some (.int .i64 x.n.lv) ∧ V.cell? ⟨G, 7, none⟩ = some (.string x.n.lo) ∧ V.cell? ⟨G, 8, none⟩ = some (.string x.n.hi) ∧ V.cell? ⟨G, 9, none⟩ = some (.bool x.n.la) ∧ V.cell? ⟨G, 10, none⟩ = some (.int .i64 x.n.nx) ∧ V.cell? ⟨G, 11, none⟩ = some (kv) ∧ V.cell? ⟨G, 12, none⟩ = some (vv) ∧ V.cell? ⟨G, 13, none⟩ = some (cw)
theorem ch3_of {E G A : Nat} {cv tv : Value} {x : Ch} {kv vv cw : Value} {V : World} (hE : BX V E 71 #[.pointer (some ⟨A, 0, none⟩), cv, tv]) (hG : BX V G 97 (chA x kv vv cw)) : Ch3 E G cv x kv vv cw V :=
  ⟨hE.cell 1 rfl, hG.cell 0 rfl, hG.cell 1 rfl, hG.cell 2 rfl, hG.cell 3 rfl, hG.cell 4 rfl, hG.cell 5 rfl, hG.cell 6 rfl, hG.cell 7 rfl, hG.cell 8 rfl, hG.cell 9 rfl, hG.cell 10 rfl, hG.cell 11 rfl, hG.cell 12 rfl, hG.cell 13 rfl⟩
theorem Turn.thru2 {S T : Nat → Prop} {a w w' : World} (h : Turn S a w) (ht : Turn T w w') (hn : ∀ j, j < a.heap.size → T j → S j) : Turn S a w' :=
  ⟨ht.os.trans h.os, ht.tape.trans h.tape, ht.output.trans h.output, Nat.le_trans h.size ht.size, fun k hk hs => (ht.block k (Nat.lt_of_lt_of_le hk h.size) (fun e => hs (hn k hk e))).trans (h.block k hk hs)⟩
set_option maxHeartbeats 4000000 in
set_option maxRecDepth 100000 in
theorem change_any (x : Ch) (ak : Option Addr) (nk ck : Nat) (av : Option Addr) (nv cw : Nat) (ac : Option Addr) (nn cn : Nat) (w : World) (h : ES w B E A b (.slice ao nc cc) tv sv N ks ss k m cs ts) (hP : NdO w B (.slice ak nk ck) (.slice av nv cw) (.slice ac nn cn) x.n) (hwf : (Lit.int .i64 x.c).wf = true) :
    Calls Try.prog 42 #[.pointer (some ⟨E, 0, none⟩), .agg (chA x (.slice ak nk ck) (.slice av nv cw) (.slice ac nn cn))] w fun e w' => ∃ (r : Bool) (ao' : Option Addr) (nc' cc' : Nat) (k' m' : Int) (cs' : List Ch), e = .returned (.bool r) ∧ ES w' B E A b (.slice ao' nc' cc') tv sv N ks ss k' m' cs' ts ∧ Turn (ESet E A b (.slice ao nc cc) tv sv) w w' ∧ ChIs ks ts cs k m x r cs' k' m' := by
  have hb1 := boxed_below w (.cells (chA x (.slice ak nk ck) (.slice av nv cw) (.slice ac nn cn)) 97)
  have n1 := BX.new w 97 (chA x (.slice ak nk ck) (.slice av nv cw) (.slice ac nn cn))
  obtain ⟨G, hG⟩ : ∃ g, g = w.heap.size := ⟨_, rfl⟩
  rw [← hG] at n1
  obtain ⟨W1, hW1⟩ : ∃ W, W = w.alloc (.cells (chA x (.slice ak nk ck) (.slice av nv cw) (.slice ac nn cn)) 97) := ⟨_, rfl⟩
  rw [← hW1] at hb1 n1
  have h1 := h.keep hb1
  have hGE : ¬ ESet E A b (.slice ao nc cc) tv sv G := fun e => by have := h.lt G e; omega
  have hao := h1.aoIn
  have hcs := h1.ch.ks
  have HI := Lib.hid (begun_yes E A _ _ W1 h1.ed)
  have HCL := Lib.hid (isCleared_any E A ao nc cc tv x.c cs _ W1 h1.ed hcs (fun g o e => (hao g o e).1))
  have hlen := hcs.len.1
  have HH := Lib.hid h1
  have HN := Lib.hid n1
  have HB1 := Lib.hid hb1
  have HGE := Lib.hid hGE
  have HP := Lib.hid hP
  have HWF := Lib.hid hwf
  have HLEN := Lib.hid hlen
  have HW := Lib.hid (show G = w.heap.size ∧ _ from ⟨hG, hW1⟩)
  have c0 : W1.cell? ⟨G, 0, none⟩ = some (.int .i64 x.c) := n1.cell 0 rfl
  clear hb1 n1 h h1 hGE hao hcs hP hwf hW1 hG hlen
  unfold chA at HW ⊢
  go_enter Try.func42, Try.ntmps42
  go_upto_region 1 with fail
  rw [← HW.out.1, ← HW.out.2]
  go_wp2_with fail
  refine HI.out.mono ?_
  rintro e w2 ⟨rfl, h2⟩
  rw [← h2]
  clear h2
  go_wp2_with fail
  refine HCL.out.mono ?_
  rintro e w3 ⟨rfl, hb3⟩
  have h3 := HH.out.keep hb3
  have n3 := HN.out.below hb3
  have H3 := Lib.hid h3
  have N3 := Lib.hid n3
  have HB3 := Lib.hid (HB1.out.trans (hb3.mono HB1.out.size))
  have c1 : w3.cell? ⟨E, 1, none⟩ = some (.slice ao nc cc) := h3.ed.cell 1 rfl
  have e0 : w3.cell? ⟨E, 0, none⟩ = some (.pointer (some ⟨A, 0, none⟩)) := h3.ed.cell 0 rfl
  clear c0 h3 n3 hb3 HI HCL
  have up : ∀ (hno : clearedB cs x.c = true ∨ 46 ≤ cs.length), True := fun _ => trivial
  clear up
  cases hcl : clearedB cs x.c with
  | true =>
    have HG3 := Lib.hid (giveUp_fv w3 H3.out.fv)
    have HCL := Lib.hid hcl
    clear hcl
    go_wp2_with fail
    refine HG3.out.mono ?_
    rintro e w4 ⟨rfl, hf4, ht4⟩
    have HE := Lib.hid (show _ ∧ _ from ⟨H3.out.view hf4 ht4, (Turn.of (S := ESet E A b (.slice ao nc cc) tv sv) HB3.out).trans (ht4.mono (fun g _ hg => Or.inr (Or.inl hg)))⟩)
    clear hf4 ht4 c1 e0
    go_wp2
    go_ret
    exact ⟨false, ao, nc, cc, _, _, cs, rfl, HE.out.1, HE.out.2, Or.inl ⟨Or.inl HCL.out, rfl, rfl, rfl, rfl⟩⟩
  | false =>
    have HCL := Lib.hid hcl
    clear hcl
    by_cases h46 : 46 ≤ nc
    · have h46' : (46 : Int) ≤ nc := by omega
      have HG3 := Lib.hid (giveUp_fv w3 H3.out.fv)
      go_wp2_with fail
      refine HG3.out.mono ?_
      rintro e w4 ⟨rfl, hf4, ht4⟩
      have HE := Lib.hid (show _ ∧ _ from ⟨H3.out.view hf4 ht4, (Turn.of (S := ESet E A b (.slice ao nc cc) tv sv) HB3.out).trans (ht4.mono (fun g _ hg => Or.inr (Or.inl hg)))⟩)
      clear hf4 ht4 c1 e0
      go_wp2
      go_ret
      exact ⟨false, ao, nc, cc, _, _, cs, rfl, HE.out.1, HE.out.2, Or.inl ⟨Or.inr (by have := HLEN.out; omega), rfl, rfl, rfl, rfl⟩⟩
    · have h46' : ¬ (46 : Int) ≤ nc := by omega
      have HLD := Lib.hid (lead_any G x _ _ _ w3 H3.out HGE.out N3.out HWF.out)
      go_wp2_with fail
      refine HLD.out.mono ?_
      rintro e w4 ⟨r, x', k', m', rfl, n4, h4, ht4, his⟩
      have HIS := Lib.hid his
      have H4 := Lib.hid h4
      have N4 := Lib.hid n4
      have T34 := Lib.hid ht4
      have TW4 := Lib.hid (show Turn (ESet E A b (.slice ao nc cc) tv sv) w w4 from Turn.thru2 (Turn.of (S := ESet E A b (.slice ao nc cc) tv sv) HB3.out) ht4 (fun j hj e => by
        rcases e with e | e
        · have := HW.out.1; omega
        · exact Or.inr (Or.inl e)))
      have h46c : cs.length < 46 := by have := HLEN.out; omega
      have H46 := Lib.hid h46c
      clear his h4 n4 ht4 c1 e0
      cases r with
      | false =>
        go_wp2
        go_ret
        refine ⟨false, ao, nc, cc, k', m', cs, rfl, H4.out, TW4.out, Or.inr ⟨HCL.out, H46.out, x', HIS.out, rfl⟩⟩
      | true =>
        obtain ⟨hsc, hse, hsl, hsn⟩ := HIS.out.same
        have hnc := HLEN.out
        subst hnc
        have HS0 := Lib.hid (show Ch3 E G (.slice ao cs.length cc) x' (.slice ak nk ck) (.slice av nv cw) (.slice ac nn cn) w4.drew from ch3_of H4.out.ed N4.out)
        have hbA : Below w4.heap.size w4 (w4.drew.alloc (.cells (chA x' (.slice ak nk ck) (.slice av nv cw) (.slice ac nn cn)) 97)) := ((Below.refl _ w4).drew).alloc (Nat.le_refl _) _
        have HMB := Lib.hid (H4.out.keep hbA)
        have HNB := Lib.hid (N4.out.below hbA)
        have HSB := Lib.hid (ch3_of HMB.out.ed HNB.out)
        have HBA := Lib.hid hbA
        have HNEWS := Lib.hid (World.news_of_block (cs := chA x' (.slice ak nk ck) (.slice av nv cw) (.slice ac nn cn)) (heap_alloc_new w4.drew (.cells (chA x' (.slice ak nk ck) (.slice av nv cw) (.slice ac nn cn)) 97)))
        have HGL := Lib.hid (lt_of_block N4.out)
        obtain ⟨ls, hls, hown⟩ := HMB.out.ch
        have HLS := Lib.hid hls
        have HOWN := Lib.hid hown
        have hoff2 : Off w3 (fun j => j = G ∨ VS A b sv j) := by
          rintro g c2 t (e | e) hg
          · exact off_ch N3.out g c2 t e hg
          · exact H3.out.fv.off g c2 t e hg
        have HPX := Lib.hid (NdO.keep (NdO.turn (HP.out.keep HB3.out) hoff2 T34.out) HBA.out)
        rw [← hsn] at HPX
        obtain ⟨i0, hi, hz0, hz1, hz2⟩ := info_parts chInfo
        have HIN := Lib.hid (show _ ∧ _ ∧ _ ∧ _ from ⟨hi, hz0, hz1, hz2⟩)
        clear hls hown hi hz0 hz1 hz2 hbA hoff2 hsc hse hsl hsn
        unfold chA at HSB HMB HNB HBA HNEWS HPX HLS HOWN
        go_upto_region 8 with fail
        refine wp_region_till (Ch3 E G (.slice ao cs.length cc) x' (.slice ak nk ck) (.slice av nv cw) (.slice ac nn cn)) 10 (by rfl) ?_
        refine wpAnyS_take 0 (some 29) [10] rfl rfl (by kernel_rfl) (by kernel_rfl) (by kernel_rfl) (by kernel_rfl) (by kernel_rfl) (by kernel_rfl) (by kernel_rfl) (fun _ _ _ h => h) (by rfl) (by intro V ⟨y0, y1, y2, y3, y4, y5, y6, y7, y8, y9, y10, y11, y12, y13, y14⟩; go_simp; (first | done | (with_reducible rfl))) HS0.out ?_
        simp only [Act.put, List.setIfInBounds_toArray, List.set_cons_zero, List.set_cons_succ]
        refine wpAnyS_take 1 (some 30) [10] rfl rfl (by kernel_rfl) (by kernel_rfl) (by kernel_rfl) (by kernel_rfl) (by kernel_rfl) (by kernel_rfl) (by kernel_rfl) (fun _ _ _ h => h) (by rfl) (by intro V ⟨y0, y1, y2, y3, y4, y5, y6, y7, y8, y9, y10, y11, y12, y13, y14⟩; go_simp; (first | done | (with_reducible rfl))) HS0.out ?_
        simp only [Act.put, List.setIfInBounds_toArray, List.set_cons_zero, List.set_cons_succ]
        refine wpAnyS_take 2 (some 31) [10] rfl rfl (by kernel_rfl) (by kernel_rfl) (by kernel_rfl) (by kernel_rfl) (by kernel_rfl) (by kernel_rfl) (by kernel_rfl) (fun _ _ _ h => h) (by rfl) (by intro V ⟨y0, y1, y2, y3, y4, y5, y6, y7, y8, y9, y10, y11, y12, y13, y14⟩; go_simp; (first | done | (with_reducible rfl))) HS0.out ?_
        simp only [Act.put, List.setIfInBounds_toArray, List.set_cons_zero, List.set_cons_succ]
        refine wpAnyS_take 3 (some 32) [10] rfl rfl (by kernel_rfl) (by kernel_rfl) (by kernel_rfl) (by kernel_rfl) (by kernel_rfl) (by kernel_rfl) (by kernel_rfl) (fun _ _ _ h => h) (by rfl) (by intro V ⟨y0, y1, y2, y3, y4, y5, y6, y7, y8, y9, y10, y11, y12, y13, y14⟩; go_simp; (first | done | (with_reducible rfl))) HS0.out ?_
        simp only [Act.put, List.setIfInBounds_toArray, List.set_cons_zero, List.set_cons_succ]
        refine wpAnyS_take 4 (some 33) [10] rfl rfl (by kernel_rfl) (by kernel_rfl) (by kernel_rfl) (by kernel_rfl) (by kernel_rfl) (by kernel_rfl) (by kernel_rfl) (fun _ _ _ h => h) (by rfl) (by intro V ⟨y0, y1, y2, y3, y4, y5, y6, y7, y8, y9, y10, y11, y12, y13, y14⟩; go_simp; (first | done | (with_reducible rfl))) HS0.out ?_
        simp only [Act.put, List.setIfInBounds_toArray, List.set_cons_zero, List.set_cons_succ]
        refine wpAnyS_take 5 (some 34) [10] rfl rfl (by kernel_rfl) (by kernel_rfl) (by kernel_rfl) (by kernel_rfl) (by kernel_rfl) (by kernel_rfl) (by kernel_rfl) (fun _ _ _ h => h) (by rfl) (by intro V ⟨y0, y1, y2, y3, y4, y5, y6, y7, y8, y9, y10, y11, y12, y13, y14⟩; go_simp; (first | done | (with_reducible rfl))) HS0.out ?_
        simp only [Act.put, List.setIfInBounds_toArray, List.set_cons_zero, List.set_cons_succ]
        refine wpAnyS_ready [6] (by kernel_rfl) (by simp) ?_
        refine AllReadyS.cons rfl (fun K hK => ?_) AllReadyS.nil
        go_simp
        refine hK.out _ _ (fun _ => HSB.out) ?_
        clear hK K
        refine wpAnyS_ready [7] (by kernel_rfl) (by simp) ?_
        refine AllReadyS.cons rfl (fun K hK => ?_) AllReadyS.nil
        refine step_append_lies _ rfl (.tmp 33) (.tmp 35) 66 rfl B 97 i0 (.agg #[.int .i64 0, .int .i64 0, .int .u64 0, .int .u64 0, .bool false, .bool false, .int .i64 0, .string ⟨#[]⟩, .string ⟨#[]⟩, .bool false, .int .i64 0, .slice none 0 0, .slice none 0 0, .slice none 0 0]) 14 168 Try.underlying66 HIN.out.1 HIN.out.2.1 HIN.out.2.2.1 HIN.out.2.2.2 rfl (by decide) (.slice ao cs.length cc) cs.length ls.flatten rfl HOWN.out ⟨_, 0, none⟩ 1 1 (x'.cells (.slice ak nk ck) (.slice av nv cw) (.slice ac nn cn)) rfl rfl HNEWS.out (by intro u hu; simp [Ch.cells] at hu; rcases hu with rfl | rfl | rfl | rfl | rfl | rfl | rfl | rfl | rfl | rfl | rfl | rfl | rfl | rfl <;> rfl) (by omega) (by unfold maxLen; have := H46.out; omega) (by omega) HMB.out.size _ rfl ?_
        intro g c9 w9 hown9 hgrow9 hlie9 hlt9
        obtain ⟨hf9, ht9⟩ := HMB.out.more HLS.out ⟨ak, nk, ck, av, nv, cw, ac, nn, cn, rfl, HPX.out⟩ hgrow9 hown9
        have hE9 : BX w9 E 71 _ := (hgrow9.block E (lt_of_block HMB.out.ed) (fun e => (HMB.out.ch_vs (HMB.out.ch.blk e.symm).2.choose_spec).2.1 rfl)).trans HMB.out.ed
        have hG9 : BX w9 G 97 _ := (hgrow9.block G (Nat.lt_of_lt_of_le HGL.out HBA.out.size) (fun e => HGE.out (Or.inr (Or.inr (Or.inl e.symm))))).trans HNB.out
        have HS9 := Lib.hid (ch3_of hE9 hG9)
        have y1 := hE9.cell 1 rfl
        have x1 := hE9.frozen 1
        have HE := Lib.hid (show _ ∧ _ from ⟨hf9, (TW4.out.trans (Turn.of HBA.out)).trans ht9⟩)
        clear hf9 ht9 hE9 hG9 hown9 hgrow9 hlie9 hlt9
        refine hK.out _ _ (fun _ => HS9.out) ?_
        clear hK K
        refine wpAnyS_ready [8] (by kernel_rfl) (by simp) ?_
        refine AllReadyS.cons rfl (fun K hK => ?_) AllReadyS.nil
        go_simp
        refine hK.out _ _ (fun _ => HS9.out) ?_
        clear hK K
        refine wpAnyS_ready [9] (by kernel_rfl) (by simp) ?_
        refine AllReadyS.cons rfl (fun K hK => ?_) AllReadyS.nil
        go_simp
        refine hK.out _ _ (fun _ => HS9.out) ?_
        clear hK K
        refine wpAnyS_ready [10] (by kernel_rfl) (by simp) ?_
        refine AllReadyS.cons rfl (fun K hK => ?_) AllReadyS.nil
        go_simp
        refine hK.out _ _ (fun h => absurd h (by decide)) ?_
        clear hK K
        refine wpAnyS_done (by kernel_rfl) ?_ _
        go_wp2
        go_ret
        exact ⟨true, some ⟨g, 0, none⟩, _, c9, k', m', cs ++ [x'], rfl, HE.out.1, HE.out.2, Or.inr ⟨HCL.out, H46.out, x', HIS.out, rfl⟩⟩
end
end Go.Proofs.Ytdbklklmpnlinaa
