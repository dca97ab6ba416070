/- answer.several: so many pairs are read, by a plain function. Condition: what has a fault has no bytes; at most 4096 pairs. -/
import Derived.Test.YtgckgagnodkhjaaRRRRDoorAnsRow
namespace Go.Proofs.YtgckgagnodkhjaaRRRRDoor
open Go.RowKit

/-- A pair is read. -/
def pairF (s : ES) : (ByteArray × Int) × ES := (((eT 64 s).1, (((eN 18446744073709551615 (eT 64 s).2).1 : Nat) : Int)), (eN 18446744073709551615 (eT 64 s).2).2)
/-- So many pairs are read, behind others. -/
def sevA : Nat → List (ByteArray × Int) → ES → List (ByteArray × Int) × ES
  | 0, acc, s => (acc, s)
  | k + 1, acc, s => if (pairF s).2.2 = 0 then sevA k (acc ++ [(pairF s).1]) (pairF s).2 else ([], (pairF s).2)
theorem pairF_any (eb : Nat) (s : ES) (w : World) (he : EyeS w eb s) :
    Calls Tryd.prog 36 #[.agg #[.pointer (some ⟨eb, 0, none⟩)]] w fun e w' => e = .returned (.tuple #[.agg #[.string (pairF s).1.1, .int .u64 (pairF s).1.2], .bool ((pairF s).2.2 == 0)]) ∧ ReadS w w' eb (pairF s).2 := pair_any eb s w he

theorem CleanRow.nil (w : World) : CleanRow w (.slice none 0 0) := fun g n cap h => by cases h
theorem CleanRow.same {w w' : World} {v : Value} (h : CleanRow w v) (hs : ∀ g, v.ownBlock = some g → w'.heap[g]? = w.heap[g]?) : CleanRow w' v := fun g n cap hv cur e fr hg => h g n cap hv cur e fr (by rw [← hs g (by rw [hv]; rfl)]; exact hg)
theorem own_block_lt {w : World} {B n size : Nat} {e : TypeId} {v : Value} {xs : List Value} (h : w.ownsRow B e size v n xs) {g : Nat} (hv : v.ownBlock = some g) : g < w.heap.size ∧ B ≤ g := by
  rcases h.2 with ⟨rfl, _⟩ | ⟨g2, cap, cur, rfl, hb, hg, _⟩
  · cases hv
  · injection hv with hv
    have hv' : g2 = g := hv
    subst hv'
    exact ⟨lt_of_block hg, hb⟩
theorem own_same {w w' : World} {B n size : Nat} {e : TypeId} {v : Value} {xs : List Value} (h : w.ownsRow B e size v n xs) (hs : ∀ g, v.ownBlock = some g → w'.heap[g]? = w.heap[g]?) : w'.ownsRow B e size v n xs := by
  refine ⟨h.1, ?_⟩
  rcases h.2 with hn | ⟨g, cap, cur, rfl, hb, hgg, r⟩
  · exact Or.inl hn
  · exact Or.inr ⟨g, cap, cur, rfl, hb, (hs g rfl).trans hgg, r⟩

/-- What an eye reads stays while a row without bytes grows. -/
theorem EyeS.grown {W W' : World} {eb B n size : Nat} {e : TypeId} {v : Value} {xs : List Value} {s : ES} (h : EyeS W eb s) (hg : W.grownBy W' v.ownBlock) (hc : CleanRow W v) (hown : W.ownsRow B e size v n xs) (hB : eb < B) : EyeS W' eb s := by
  have hne : some eb ≠ v.ownBlock := fun h2 => by have := (own_block_lt hown h2.symm).2; omega
  obtain ⟨⟨u, h1, ao, cc, h2, h3, h4, h5⟩, h6⟩ := h
  refine ⟨⟨u, (hg.block eb (lt_of_block h1) hne).trans h1, ao, cc, h2, h3, h4, fun hb => ?_⟩, h6⟩
  obtain ⟨g, o, e1, hge, hcs⟩ := h5 hb
  refine ⟨g, o, e1, hge, fun j hj => ?_⟩
  have hcell := hcs j hj
  have hlt : g < W.heap.size := World.block_lt_of_cell? W _ hcell
  by_cases hgo : some g = v.ownBlock
  · exfalso
    rcases hown.2 with ⟨rfl, _⟩ | ⟨g2, cap, cur, rfl, _, hgg, _⟩
    · cases hgo
    · injection hgo with hgo
      have hgo' : g = g2 := hgo
      subst hgo'
      simp only [World.cell?, hgg] at hcell
      have hm : cur[o + j]? = some (.int .u8 (s.1[j].toNat : Nat)) := by simpa using hcell
      exact hc g n cap rfl cur e _ hgg _ (Array.mem_toList_iff.2 (Array.mem_of_getElem? hm)) _ rfl
  · exact (World.cell?_of_block (a := ⟨g, o + j, none⟩) (hg.block g hlt hgo)).trans hcell

/-- While pairs are read. -/
structure SV (w W : World) (eb : Nat) (v : Value) (acc : List (ByteArray × Int)) (s : ES) : Prop where
  own : OwnP W w.heap.size v acc
  clean : CleanRow W v
  eye : EyeS W eb s
  ew : Ew eb w W
  lt : eb < w.heap.size
section
variable {w W W' : World} {eb : Nat} {v : Value} {acc : List (ByteArray × Int)} {s s' : ES}
theorem SV.read (h : SV w W eb v acc s) (hr : ReadS W W' eb s') : SV w W' eb v acc s' := by
  have hs : ∀ g, v.ownBlock = some g → W'.heap[g]? = W.heap[g]? := fun g hg => hr.2.block g (own_block_lt h.own hg).1 (by have := (own_block_lt h.own hg).2; have := h.lt; omega)
  exact ⟨own_same h.own hs, h.clean.same hs, hr.1, h.ew.trans hr.2, h.lt⟩
theorem SV.under (h : SV w W eb v acc s) (hb : Below W.heap.size W W') : SV w W' eb v acc s := by
  have hs : ∀ g, v.ownBlock = some g → W'.heap[g]? = W.heap[g]? := fun g hg => hb.block g (own_block_lt h.own hg).1
  exact ⟨own_same h.own hs, h.clean.same hs, h.eye.under hb, h.ew.trans (ew_of_below hb), h.lt⟩
theorem SV.more {v' : Value} {t : ByteArray} {z : Int} (h : SV w W eb v acc s) (h1 : W'.ownsRow w.heap.size 32 2 v' (acc.length + 1) (pcells acc ++ [.string t, .int .u64 z])) (hg : W.grownBy W' v.ownBlock) (hc : CleanRow W' v') : SV w W' eb v' (acc ++ [(t, z)]) s := by
  refine ⟨OwnP.more h1, hc, h.eye.grown hg h.clean h.own h.lt, ⟨hg.os.trans h.ew.os, hg.tape.trans h.ew.tape, hg.output.trans h.ew.output, Nat.le_trans h.ew.size hg.size, fun k hk hne => ?_⟩, h.lt⟩
  exact (hg.block k (Nat.lt_of_lt_of_le hk h.ew.size) (fun e => by have := (own_block_lt h.own e.symm).2; omega)).trans (h.ew.block k hk hne)
end
theorem nb_pair (t : ByteArray) (z : Int) : ∀ u ∈ ([.string t, .int .u64 z] : List Value), nb u := by
  intro u hu x
  simp at hu
  rcases hu with rfl | rfl <;> simp
/-- append as a step of a walk, onto a row of the call's own without bytes. -/
theorem wpList_append_clean {P : Program} {w : World} {ops : Array Oper} {rest : List Oper} {o : Oper} {a : Act} {Q : Exit → Act → World → Prop} (hgd : o.guard = none) (s x : Operand) (t : TypeId)
    (hop : o.op = .call { callee := .builtin .append, args := #[s, x], argTypes := #[t, t] })
    (base : Nat) (e : TypeId) (i : TypeInfo) (z : Value) (size bytes : Nat) (ht : P.underlying t = some (.slice e)) (hi : P.info? e = some i) (hz : i.zero = some z)
    (hsize : i.size = size) (hby : i.bytes = bytes) (hzs : z.cells.size = size) (hsz : 0 < size)
    (v : Value) (n : Nat) (xs : List Value) (hs : a.eval s = v) (hown : w.ownsRow base e size v n xs)
    (ad : Addr) (m c : Nat) (news : List Value) (hx : a.eval x = .slice (some ad) m c) (hl : news.length = m * size) (hnews : ∀ j u, news[j]? = some u → w.cell? (ad.add j) = some u) (h1 : ∀ u ∈ news, u.oneCell' = true)
    (h63 : n + m ≤ maxLen) (hbytes : (n + m) * bytes ≤ 140737488355328) (hbase : base ≤ w.heap.size) (hm : m ≠ 0)
    (hc : CleanRow w v) (hn : ∀ u ∈ news, nb u) (hzz : ∀ u ∈ z.cells.toList, nb u)
    (hK : ∀ v' w', w'.ownsRow base e size v' (n + m) (xs ++ news) → w.grownBy w' v.ownBlock → CleanRow w' v' → wpList P ops Q rest (a.put o.dst v') w') : wpList P ops Q (o :: rest) a w := by
  refine wpList_plain hgd fun K hKK => ?_
  obtain ⟨v', w', hrun, r1, r2, r3⟩ := append_clean (P := P) w base t o.type e i z size bytes ht hi hz hsize hby hzs hsz v n xs hown ad m c news hl hnews h1 h63 hbytes hbase hm hc hn hzz
  unfold Oper.wp
  simp [execOp, hop, resolve, invoke, builtin, hs, hx, hrun, Result.andThen]
  exact hKK _ _ (hK v' w' r1 r2 r3)

/-- What several gives. -/
def SevGives (w w' : World) (eb : Nat) (e : Ending) (r : List (ByteArray × Int) × ES) : Prop := ∃ v, e = .returned v ∧ SV w w' eb v r.1 r.2

set_option maxHeartbeats 4000000 in
set_option maxRecDepth 100000 in
theorem several_any (eb n : Nat) (s : ES) (w : World) (he : EyeS w eb s) (hn : n ≤ 4096) :
    Calls Tryd.prog 35 #[.int .u64 (n : Nat), .func (.func 36) #[.agg #[.pointer (some ⟨eb, 0, none⟩)]] #[]] w fun e w' => SevGives w w' eb e (sevA n [] s) := by
  obtain ⟨R, hR⟩ : ∃ R, R = sevA n [] s := ⟨_, rfl⟩
  rw [← hR]
  have HRR := Lib.hid hR
  obtain ⟨i0, hi, hz0, hz1, hz2⟩ := info_parts infoPair
  have HI := Lib.hid (show _ ∧ _ ∧ _ ∧ _ from ⟨hi, hz0, hz1, hz2⟩)
  have HS0 : Hid (SV w w eb (.slice none 0 0) [] s) := Lib.hid ⟨OwnP.nil _ _, CleanRow.nil _, he, Ew.refl _ _, he.lt⟩
  clear hR hi hz0 hz1 hz2 he
  go_enter Tryd.func35, Tryd.ntmps35
  go_wp2
  go_loopw [5, 9] (fun l c wr => ∃ (k : Nat) (acc : List (ByteArray × Int)) (si : ES), c = .int .u64 (k : Nat) ∧ k ≤ n ∧ Hid (R = sevA (n - k) acc si ∧ acc.length = k) ∧ Hid (SV w wr eb l acc si)) (fun _ c _ => n - (intOf c).toNat)
  case atStart => exact ⟨0, [], s, rfl, Nat.zero_le _, Lib.hid ⟨HRR.out, rfl⟩, HS0⟩
  case round =>
    obtain ⟨k, acc, si, rfl, hk, hA, HSV⟩ := hrel
    by_cases hlt : k < n
    · have hlt' : (k : Int) < (n : Int) := by omega
      have hstep : R = if (pairF si).2.2 = 0 then sevA (n - (k + 1)) (acc ++ [(pairF si).1]) (pairF si).2 else ([], (pairF si).2) := by
        have h := hA.out.1
        rw [show n - k = (n - (k + 1)) + 1 by omega] at h
        exact h
      have HP := Lib.hid (pairF_any eb si _ HSV.out.eye)
      rcases hQ : pairF si with ⟨⟨t, z⟩, s'⟩
      rw [hQ] at hstep HP
      simp only at hstep HP
      have HST := Lib.hid hstep
      clear hstep hQ
      go_wp2_with fail
      refine HP.out.mono ?_
      rintro e w2 ⟨rfl, hr2⟩
      have HSV2 := Lib.hid (HSV.out.read hr2)
      clear hr2 HP HSV
      have hx3 := boxed_below w2 (.cells #[.string t, .int .u64 z] 32)
      have n3 := BX.new w2 32 #[.string t, .int .u64 z]
      have HSV3 := Lib.hid (HSV2.out.under hx3)
      clear hx3 HSV2
      by_cases hz : s'.2 = 0
      · have hb : (s'.2 == 0) = true := by rw [hz]; rfl
        rw [hb]
        have HST2 : Hid (R = sevA (n - (k + 1)) (acc ++ [(t, z)]) s') := Lib.hid (by rw [HST.out, if_pos hz])
        clear hb hz HST
        go_upto_region 5 with fail
        obtain ⟨W3, hW3⟩ : ∃ W, W = w2.alloc (.cells #[.string t, .int .u64 z] 32) := ⟨_, rfl⟩
        rw [← hW3] at HSV3 n3 ⊢
        clear hW3
        have q0 : W3.cell? ⟨w2.heap.size, 0, none⟩ = some (.string t) := n3.cell 0 rfl
        have q1 : W3.cell? ⟨w2.heap.size, 1, none⟩ = some (.int .u64 z) := n3.cell 1 rfl
        clear n3
        go_wp2_with ((with_reducible show wpList _ _ _ (⟨some 21, _, _, _, _, _⟩ :: _) _ _); refine wpList_append_clean rfl (.tmp 18) (.tmp 20) 23 rfl w.heap.size 32 i0 (.agg #[.string ⟨#[]⟩, .int .u64 0]) 2 24 Tryd.underlying23 HI.out.1 HI.out.2.1 HI.out.2.2.1 HI.out.2.2.2 rfl (by decide) _ acc.length (pcells acc) rfl (HSV3.out.under (boxed_below _ _)).own ⟨W3.heap.size, 0, none⟩ 1 1 [.string t, .int .u64 z] rfl rfl (two_news W3 t z _) (by intro u hu; simp at hu; rcases hu with rfl | rfl <;> rfl) (by unfold maxLen; have := hA.out.2; omega) (by have := hA.out.2; omega) (Nat.le_trans HSV3.out.ew.size (by simp)) (by decide) (HSV3.out.under (boxed_below _ _)).clean (nb_pair t z) (nb_pair ⟨#[]⟩ 0) ?_; intro v9 w9 hown9 hgrow9 hclean9; have HS9 := Lib.hid ((HSV3.out.under (boxed_below _ _)).more hown9 hgrow9 hclean9); clear hown9 hgrow9 hclean9)
        go_roundw
        case rel => exact ⟨k + 1, acc ++ [(t, z)], s', by go_num, by omega, Lib.hid ⟨HST2.out, by rw [List.length_append, hA.out.2]; rfl⟩, HS9⟩
        case measure => simp [intOf]; omega
      · have hb : (s'.2 == 0) = false := by rw [beq_eq_false_iff_ne]; exact hz
        rw [hb]
        have HST2 : Hid (R = ([], s')) := Lib.hid (by rw [HST.out, if_neg hz])
        clear hb hz HST
        go_wp2
        go_ret
        refine ⟨_, rfl, ?_⟩
        rw [HST2.out]
        exact ⟨OwnP.nil _ _, CleanRow.nil _, HSV3.out.eye, HSV3.out.ew, HSV3.out.lt⟩
    · obtain rfl : k = n := by omega
      have HE : Hid (R = (acc, si)) := Lib.hid (by rw [hA.out.1, Nat.sub_self]; rfl)
      go_wp2
      go_ret
      refine ⟨_, rfl, ?_⟩
      rw [HE.out]
      exact HSV.out
end Go.Proofs.YtgckgagnodkhjaaRRRRDoor
