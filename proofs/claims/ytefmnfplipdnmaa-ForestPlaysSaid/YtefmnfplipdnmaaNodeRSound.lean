/- bowerref10.Sound: whether a node is sound, as the document says. Condition: texts of at most 2^47 bytes, at most 2^38 keys. -/
import Derived.Test.YtefmnfplipdnmaaNodeCheck2
namespace Go.Proofs.Ytefmnfplipdnmaa
open Go.RowKit

/-- The keys so far, in the range, and keys where they should be. -/
def KeySo (lv : Int) (lo hi : ByteArray) (la : Bool) (ks : List ByteArray) (i : Nat) : Prop := insideB lo.data.toList hi.data.toList la (nth ks i).data.toList = true ∧ (lv = 0 ∨ 0 < i → keyB (nth ks i) = true)

/-- The last loop: the kids. -/
structure RestP (lv : Int) (lo : ByteArray) (nk nv nc : Nat) (ks : List ByteArray) (cs : List Int) : Prop where
  leaf : lv = 0 → nv = nk ∧ nc = 0
  inner : lv ≠ 0 → nc = nk ∧ nc ≠ 0 ∧ nv = 0 ∧ nth ks 0 = lo ∧ KidsP nc cs

theorem sound_of {lv nx : Int} {lo hi : ByteArray} {la : Bool} {nk nv nc : Nat} {ks : List ByteArray} {cs : List Int} {fan : Int} (h1 : BorderP lv nx lo hi la) (h2 : (nk : Int) ≤ fan) (h3 : Rises ks) (h4 : ∀ i, i < nk → KeySo lv lo hi la ks i) (h5 : RestP lv lo nk nv nc ks cs) : SoundP lv nx lo hi la nk nv nc ks cs fan := by
  refine ⟨⟨h1.1.1, by have := h1.1.2; omega⟩, h1.2, ⟨h2, h3, fun i hi => (h4 i hi).1⟩, fun h0 => ?_, fun h0 => ?_⟩
  · exact ⟨(h5.leaf h0).1, (h5.leaf h0).2, fun i hi => (h4 i hi).2 (Or.inl h0)⟩
  · obtain ⟨a, b, c, d, f⟩ := h5.inner h0
    exact ⟨a, b, c, d, fun i h6 h7 => (h4 i h7).2 (Or.inr h6), f⟩
theorem of_sound {lv nx : Int} {lo hi : ByteArray} {la : Bool} {nk nv nc : Nat} {ks : List ByteArray} {cs : List Int} {fan : Int} (h : SoundP lv nx lo hi la nk nv nc ks cs fan) : BorderP lv nx lo hi la ∧ (nk : Int) ≤ fan ∧ Rises ks ∧ (∀ i, i < nk → KeySo lv lo hi la ks i) ∧ RestP lv lo nk nv nc ks cs := by
  refine ⟨⟨⟨h.level.1, by have := h.level.2; omega⟩, h.range⟩, h.keys.many, h.keys.rise, fun i hi => ⟨h.keys.inn i hi, fun h0 => ?_⟩, fun h0 => ?_, fun h0 => ?_⟩
  · by_cases e : lv = 0
    · exact (h.entries.leaf e).2.2 i hi
    · exact (h.entries.inner e).2.2.2.2.1 i (by omega) hi
  · exact ⟨(h.entries.leaf h0).1, (h.entries.leaf h0).2.1⟩
  · obtain ⟨a, b, c, d, f, g⟩ := h.entries.inner h0
    exact ⟨a, b, c, d, g⟩

set_option maxHeartbeats 2000000 in
set_option maxRecDepth 100000 in
theorem rsound_any (lv nx : Int) (lo hi : ByteArray) (la : Bool) (ak av ac : Option Addr) (nk ck nv cv nc cc : Nat) (ks : List ByteArray) (vs : List Nat) (cs : List Int) (fan : Int) (w : World) (hN : NdAt w ak av ac nk ck nv cv nc cc ks vs cs) (hl : lo.size ≤ 140737488355328) (hh : hi.size ≤ 140737488355328) (hk : ∀ x ∈ ks, x.size ≤ 140737488355328) (hn : nk ≤ 274877906944) :
    Calls Try.prog 65 #[.agg #[.int .i64 lv, .string lo, .string hi, .bool la, .int .i64 nx, .slice ak nk ck, .slice av nv cv, .slice ac nc cc], .int .i64 fan] w fun e w' => EveryGives w w' e (SoundP lv nx lo hi la nk nv nc ks cs fan) := by
  have HB := Lib.hid (boxed_below w (.cells #[.int .i64 lv, .string lo, .string hi, .bool la, .int .i64 nx, .slice ak nk ck, .slice av nv cv, .slice ac nc cc] 37))
  have HNB := Lib.hid (NB.new w #[.int .i64 lv, .string lo, .string hi, .bool la, .int .i64 nx, .slice ak nk ck, .slice av nv cv, .slice ac nc cc])
  have HBO := Lib.hid (fun W => border_any lv nx lo hi la ak av ac nk ck nv cv nc cc W hl hh)
  have hlk := rd_len hN.k
  have hlk2 := hlk.2.1
  have hlk3 := hlk.2.2
  have hlv := rd_len hN.v
  have hlv3 := hlv.2.2
  have hlv2 := hlv.2.1
  have hlc := rd_len hN.c
  have hlc3 := hlc.2.2
  have hlc2 := hlc.2.1
  have HRI := Lib.hid (fun (r : Bool) (hu : r = true ↔ Rises ks) W (hb : Below w.heap.size w W) => rrising_any (.slice ak nk ck) ks r W (hN.k.keep hb) hk (by omega) hu)
  have HSZ : Hid (∀ i, i < nk → (nth ks i).size ≤ 140737488355328) := Lib.hid (fun i hj => by rw [nth_eq (by omega)]; exact hk _ (List.getElem_mem _))
  have HIN := Lib.hid (fun i (hj : i < nk) W => rinside_any lo hi la (nth ks i) W hl hh (HSZ.out i hj))
  have HKY := Lib.hid (fun k W => rkey_any k W)
  have HCE := Lib.hid (fun c W => rcell_any c W)
  have HND := Lib.hid hN
  have HOF := Lib.hid (fun (h : SoundP lv nx lo hi la nk nv nc ks cs fan) => of_sound h)
  have HTO := Lib.hid (fun h1 h2 h3 h4 h5 => @sound_of lv nx lo hi la nk nv nc ks cs fan h1 h2 h3 h4 h5)
  obtain ⟨q0, q1, q2, q3, q4, q5, q6, q7⟩ := HNB.out.cells
  clear hN hl hh hk hlk hlv hlc
  go_enter Try.func65, Try.ntmps65
  go_wp2_with fail
  refine (HBO.out _).mono ?_
  rintro e w1 ⟨r1, rfl, hr1, hb1⟩
  have HP1 := Lib.hid hr1
  have HB1 := Lib.hid (HB.out.trans (hb1.mono HB.out.size))
  have HN1 := Lib.hid (HNB.out.below hb1)
  clear hr1 hb1 q0 q1 q2 q3 q4 q5 q6 q7
  cases r1 with
  | false =>
    have HN : Hid (¬ SoundP lv nx lo hi la nk nv nc ks cs fan) := Lib.hid (fun h => by have := HP1.out.2 (HOF.out h).1; cases this)
    go_wp2
    go_ret
    exact ⟨false, rfl, ⟨fun h => (by cases h), fun h => absurd h HN.out⟩, HB1.out⟩
  | true =>
    have HBP : Hid (BorderP lv nx lo hi la) := Lib.hid (HP1.out.1 rfl)
    obtain ⟨q0, q1, q2, q3, q4, q5, q6, q7⟩ := HN1.out.cells
    by_cases h2 : fan < nk
    · have HN : Hid (¬ SoundP lv nx lo hi la nk nv nc ks cs fan) := Lib.hid (fun h => by have := (HOF.out h).2.1; omega)
      go_wp2
      go_ret
      exact ⟨false, rfl, ⟨fun h => (by cases h), fun h => absurd h HN.out⟩, HB1.out⟩
    have h2' : ¬ (fan < (nk : Int)) := h2
    by_cases h3 : Rises ks
    case neg =>
      have HR1 := Lib.hid (HRI.out false ⟨fun h => (by cases h), fun h => absurd h h3⟩)
      have HN : Hid (¬ SoundP lv nx lo hi la nk nv nc ks cs fan) := Lib.hid (fun h => h3 (HOF.out h).2.2.1)
      clear h3
      go_wp2_with fail
      refine (HR1.out _ HB1.out).mono ?_
      rintro e w2 ⟨rfl, hd⟩
      have HB2 := Lib.hid (HB1.out.trans (hd.below _))
      clear hd
      go_wp2
      go_ret
      exact ⟨false, rfl, ⟨fun h => (by cases h), fun h => absurd h HN.out⟩, HB2.out⟩
    case pos =>
      have HR1 := Lib.hid (HRI.out true ⟨fun _ => h3, fun _ => rfl⟩)
      have HRS := Lib.hid h3
      clear h3
      go_wp2_with fail
      refine (HR1.out _ HB1.out).mono ?_
      rintro e w2 ⟨rfl, hd⟩
      have HB2 := Lib.hid (HB1.out.trans (hd.below _))
      have HN2 := Lib.hid (HN1.out.below (hd.below _))
      clear hd q0 q1 q2 q3 q4 q5 q6 q7
      go_wp2
      go_loopw [5] (fun s wr => ∃ i : Nat, s = .int .i64 i ∧ i ≤ nk ∧ Hid (Below w2.heap.size w2 wr) ∧ Hid (∀ j, j < i → KeySo lv lo hi la ks j)) (fun s _ => nk - (intOf s).toNat)
      case atStart => exact ⟨0, rfl, Nat.zero_le _, Lib.hid (Below.refl _ _), Lib.hid (fun j hj => absurd hj (Nat.not_lt_zero _))⟩
      case round =>
        obtain ⟨i, rfl, hin, hbw, hall⟩ := hrel
        have HNW := Lib.hid (HN2.out.below hbw.out)
        have HBW := Lib.hid (HB2.out.trans (hbw.out.mono HB2.out.size))
        obtain ⟨q0, q1, q2, q3, q4, q5, q6, q7⟩ := HNW.out.cells
        by_cases hlt : i < nk
        · obtain ⟨g, o, hak, hc⟩ := rd_at (HND.out.keep HBW.out).k (⟨#[]⟩ : ByteArray) i hlt
          have hc2 : _ = some (Value.string (nth ks i)) := hc i hlt
          subst hak
          have hlt' : (i : Int) < nk := by omega
          have HI1 := Lib.hid (fun W => HIN.out i hlt W)
          have HK1 := Lib.hid (fun W => HKY.out (nth ks i) W)
          clear hc
          have HKS : Hid (KeySo lv lo hi la ks i ↔ insideB lo.data.toList hi.data.toList la (nth ks i).data.toList = true ∧ (lv = 0 ∨ 0 < i → keyB (nth ks i) = true)) := Lib.hid Iff.rfl
          have HBD := Lib.hid (fun n => (hbw.out.trans (Drew.below (w := wr) (w' := wr.drewN n) ⟨n, rfl⟩ _) : Below w2.heap.size w2 (wr.drewN n)))
          have HBDW := Lib.hid (fun n => (HBW.out.trans (Drew.below (w := wr) (w' := wr.drewN n) ⟨n, rfl⟩ _) : Below w.heap.size w (wr.drewN n)))
          generalize insideB lo.data.toList hi.data.toList la (nth ks i).data.toList = ib at *
          generalize keyB (nth ks i) = kb at *
          generalize nth ks i = s at *
          cases ib with
          | false =>
            have HN : Hid (¬ SoundP lv nx lo hi la nk nv nc ks cs fan) := Lib.hid (fun h => by have := (HKS.out.1 ((HOF.out h).2.2.2.1 i hlt)).1; cases this)
            go_wp2
            go_quiet ((go_at_call 101; exact Calls.quiet_of (HI1.out _)))
            go_wp2
            go_ret
            exact ⟨false, rfl, ⟨fun h => (by cases h), fun h => absurd h HN.out⟩, HBDW.out _⟩
          | true =>
            cases kb with
            | true =>
              have HNX : Hid (∀ j, j < i + 1 → KeySo lv lo hi la ks j) := Lib.hid (fun j hj => by
                by_cases e : j = i
                · subst e; exact HKS.out.2 ⟨rfl, fun _ => rfl⟩
                · exact hall.out j (by omega))
              go_wp2
              go_quiet ((go_at_call 101; exact Calls.quiet_of (HI1.out _)))
              go_wp2_with fail
              refine (HK1.out _).mono ?_
              rintro e w3 ⟨rfl, hw3⟩
              subst hw3
              go_wp2
              go_roundw
              case rel => exact ⟨i + 1, by go_num, by omega, Lib.hid (HBD.out _), HNX⟩
              case measure => simp [intOf]; omega
            | false =>
              by_cases h0 : lv = 0
              · have g0 : (lv == 0) = true := by rw [h0]; rfl
                have HN : Hid (¬ SoundP lv nx lo hi la nk nv nc ks cs fan) := Lib.hid (fun h => by have := (HKS.out.1 ((HOF.out h).2.2.2.1 i hlt)).2 (Or.inl h0); cases this)
                clear h0
                go_wp2
                go_quiet ((go_at_call 101; exact Calls.quiet_of (HI1.out _)))
                go_wp2_with fail
                refine (HK1.out _).mono ?_
                rintro e w3 ⟨rfl, hw3⟩
                subst hw3
                go_wp2
                go_ret
                exact ⟨false, rfl, ⟨fun h => (by cases h), fun h => absurd h HN.out⟩, HBDW.out _⟩
              · have g0 : (lv == 0) = false := by simpa using h0
                by_cases hi0 : 0 < i
                · have hi0' : (0 : Int) < i := by omega
                  have HN : Hid (¬ SoundP lv nx lo hi la nk nv nc ks cs fan) := Lib.hid (fun h => by have := (HKS.out.1 ((HOF.out h).2.2.2.1 i hlt)).2 (Or.inr hi0); cases this)
                  clear h0
                  go_wp2
                  go_quiet ((go_at_call 101; exact Calls.quiet_of (HI1.out _)))
                  go_wp2_with fail
                  refine (HK1.out _).mono ?_
                  rintro e w3 ⟨rfl, hw3⟩
                  subst hw3
                  go_wp2
                  go_ret
                  exact ⟨false, rfl, ⟨fun h => (by cases h), fun h => absurd h HN.out⟩, HBDW.out _⟩
                · have hi0' : ¬ (0 : Int) < i := by omega
                  have HNX : Hid (∀ j, j < i + 1 → KeySo lv lo hi la ks j) := Lib.hid (fun j hj => by
                    by_cases e : j = i
                    · subst e; exact HKS.out.2 ⟨rfl, fun h => by omega⟩
                    · exact hall.out j (by omega))
                  clear h0
                  go_wp2
                  go_quiet ((go_at_call 101; exact Calls.quiet_of (HI1.out _)))
                  go_wp2_with fail
                  refine (HK1.out _).mono ?_
                  rintro e w3 ⟨rfl, hw3⟩
                  subst hw3
                  go_wp2
                  go_roundw
                  case rel => exact ⟨i + 1, by go_num, by omega, Lib.hid (HBD.out _), HNX⟩
                  case measure => simp [intOf]; omega
        · obtain rfl : i = nk := by omega
          have HSP : Hid (SoundP lv nx lo hi la i nv nc ks cs fan ↔ RestP lv lo i nv nc ks cs) := Lib.hid ⟨fun h => (HOF.out h).2.2.2.2, fun h => HTO.out HBP.out (by omega) HRS.out hall.out h⟩
          clear hall HIN HRI HOF HTO HBP HP1 HRS HSZ HKY HR1
          by_cases h0 : lv = 0
          · have g0 : (lv == 0) = true := by rw [h0]; rfl
            by_cases h1 : nv = i
            · have g1 : ((nv : Int) == (i : Int)) = true := by rw [h1]; simp
              by_cases h4 : nc = 0
              · have g2 : ((nc : Int) == 0) = true := by rw [h4]; rfl
                have HN : Hid (SoundP lv nx lo hi la i nv nc ks cs fan) := Lib.hid (HSP.out.2 ⟨fun _ => ⟨h1, h4⟩, fun h => absurd h0 h⟩)
                clear h0 h1 h4
                go_wp2
                go_ret
                exact ⟨true, rfl, ⟨fun _ => HN.out, fun _ => rfl⟩, HBW.out⟩
              · have g2 : ((nc : Int) == 0) = false := beq_eq_false_iff_ne.2 (by omega)
                have HN : Hid (¬ SoundP lv nx lo hi la i nv nc ks cs fan) := Lib.hid (fun h => h4 ((HSP.out.1 h).leaf h0).2)
                clear h0 h1 h4
                go_wp2
                go_ret
                exact ⟨false, rfl, ⟨fun h => (by cases h), fun h => absurd h HN.out⟩, HBW.out⟩
            · have g1 : ((nv : Int) == (i : Int)) = false := beq_eq_false_iff_ne.2 (by omega)
              have HN : Hid (¬ SoundP lv nx lo hi la i nv nc ks cs fan) := Lib.hid (fun h => h1 ((HSP.out.1 h).leaf h0).1)
              clear h0 h1
              go_wp2
              go_ret
              exact ⟨false, rfl, ⟨fun h => (by cases h), fun h => absurd h HN.out⟩, HBW.out⟩
          have g0 : (lv == 0) = false := by simpa using h0
          have HL0 := Lib.hid h0
          have HBDW := Lib.hid (fun n => (HBW.out.trans (Drew.below (w := wr) (w' := wr.drewN n) ⟨n, rfl⟩ _) : Below w.heap.size w (wr.drewN n)))
          clear h0
          by_cases h1 : nc = i
          case neg =>
            have g1 : ((nc : Int) != (i : Int)) = true := by rw [bne_iff_ne]; omega
            have g1' : (nc != i) = true := by rw [bne_iff_ne]; exact h1
            have HN : Hid (¬ SoundP lv nx lo hi la i nv nc ks cs fan) := Lib.hid (fun h => h1 ((HSP.out.1 h).inner HL0.out).1)
            clear h1
            go_wp2
            go_quiet (fail)
            go_wp2
            go_ret
            exact ⟨false, rfl, ⟨fun h => (by cases h), fun h => absurd h HN.out⟩, HBDW.out _⟩
          case pos =>
            have HE1 := Lib.hid h1
            have g1 : ((nc : Int) != (i : Int)) = false := by rw [h1]; simp
            have g1' : (nc != i) = false := by rw [h1]; simp
            by_cases h2 : nc = 0
            · have g2 : ((nc : Int) == 0) = true := by rw [h2]; rfl
              have g2' : (nc == 0) = true := by rw [h2]; rfl
              have HN : Hid (¬ SoundP lv nx lo hi la i nv nc ks cs fan) := Lib.hid (fun h => ((HSP.out.1 h).inner HL0.out).2.1 h2)
              clear h1 h2
              go_wp2
              go_quiet (fail)
              go_wp2
              go_ret
              exact ⟨false, rfl, ⟨fun h => (by cases h), fun h => absurd h HN.out⟩, HBDW.out _⟩
            have g2 : ((nc : Int) == 0) = false := beq_eq_false_iff_ne.2 (by omega)
            have g2' : (nc == 0) = false := beq_eq_false_iff_ne.2 h2
            by_cases h3 : 0 < nv
            · have g3 : decide ((0 : Int) < (nv : Int)) = true := by simp; omega
              have g3' : decide (0 < nv) = true := by simp; omega
              have HN : Hid (¬ SoundP lv nx lo hi la i nv nc ks cs fan) := Lib.hid (fun h => by have := ((HSP.out.1 h).inner HL0.out).2.2.1; omega)
              clear h1 h2
              go_wp2
              go_quiet (fail)
              go_wp2
              go_ret
              exact ⟨false, rfl, ⟨fun h => (by cases h), fun h => absurd h HN.out⟩, HBDW.out _⟩
            have g3 : decide ((0 : Int) < (nv : Int)) = false := by simp; omega
            have g3' : decide (0 < nv) = false := by simp; omega
            have hk0 : 0 < i := by omega
            have hk0' : (0 : Int) < i := by omega
            obtain ⟨gk, ok, hak, hck⟩ := rd_at (HND.out.keep HBW.out).k (⟨#[]⟩ : ByteArray) 0 hk0
            have c0 : _ = some (Value.string (nth ks 0)) := hck 0 hk0
            rw [Nat.add_zero] at c0
            have HH := Lib.hid (And.intro h1 (And.intro h2 (show nv = 0 by omega)))
            subst hak
            clear hck h1 h2 h3
            by_cases h4 : nth ks 0 = lo
            case neg =>
              have z1 := (txt_not h4).1
              have z2 := (txt_not h4).2
              have HN : Hid (¬ SoundP lv nx lo hi la i nv nc ks cs fan) := Lib.hid (fun h => h4 ((HSP.out.1 h).inner HL0.out).2.2.2.1)
              clear h4
              generalize nth ks 0 = s0 at *
              go_wp2
              go_quiet (fail)
              go_wp2
              go_ret
              exact ⟨false, rfl, ⟨fun h => (by cases h), fun h => absurd h HN.out⟩, HBDW.out _⟩
            case pos =>
              have z1 := (txt_is h4).1
              have z2 := (txt_is h4).2
              have HKD : Hid (SoundP lv nx lo hi la i nv nc ks cs fan ↔ KidsP nc cs) := Lib.hid (HSP.out.trans ⟨fun h => (h.inner HL0.out).2.2.2.2, fun h => ⟨fun e => absurd e HL0.out, fun _ => ⟨HH.out.1, HH.out.2.1, HH.out.2.2, h4, h⟩⟩⟩)
              clear h4
              generalize nth ks 0 = s0 at *
              go_wp2
              go_quiet (fail)
              go_wp2
              clear g1 g1' g2 g2' g3 g3' z1 z2 c0 HSP q0 q1 q2 q3 q4 q5 q6 q7
              obtain ⟨w4, rfl⟩ : ∃ w4 : World, w4 = wr := ⟨_, rfl⟩
              go_loopw [6] (fun s wr => ∃ k : Nat, s = .int .i64 k ∧ k ≤ nc ∧ Hid (Below w4.heap.size w4 wr) ∧ Hid (∀ a, a < k → cellB (ni cs a) = true ∧ ∀ j, j < a → ni cs j ≠ ni cs a)) (fun s _ => nc - (intOf s).toNat)
              case atStart => exact ⟨0, rfl, Nat.zero_le _, Lib.hid (Drew.below ⟨_, rfl⟩ _), Lib.hid (fun j hj => absurd hj (Nat.not_lt_zero _))⟩
              case round =>
                obtain ⟨k, rfl, hkn, hb5, hall⟩ := hrel
                have HNB5 := Lib.hid (HNW.out.below hb5.out)
                have HBW5 := Lib.hid (HBW.out.trans (hb5.out.mono HBW.out.size))
                obtain ⟨q0, q1, q2, q3, q4, q5, q6, q7⟩ := HNB5.out.cells
                by_cases hlt : k < nc
                · obtain ⟨g, o, hac, hc⟩ := rd_at (HND.out.keep HBW5.out).c (0 : Int) k hlt
                  have hck : _ = some (Value.int .i64 (ni cs k)) := hc k hlt
                  subst hac
                  have hlt' : (k : Int) < nc := by omega
                  have HCS : Hid (∀ j, j < nc → ∀ V, Below wr.heap.size wr V → V.cell? ⟨g, o + j, none⟩ = some (.int .i64 (ni cs j))) := Lib.hid (fun j hj V hV => (hV.cell (p := ⟨g, o + j, none⟩) (World.block_lt_of_cell? wr _ (hc j hj))).trans (hc j hj))
                  have HC1 := Lib.hid (fun W => HCE.out (ni cs k) W)
                  clear hc
                  cases hcb : cellB (ni cs k) with
                  | false =>
                    rw [hcb] at HC1
                    have HN : Hid (¬ SoundP lv nx lo hi la i nv nc ks cs fan) := Lib.hid (fun h => by have := ((HKD.out.1 h) k hlt).1; rw [hcb] at this; cases this)
                    clear hcb
                    generalize ni cs k = x at *
                    go_wp2_with fail
                    refine (HC1.out _).mono ?_
                    rintro e w6 ⟨rfl, hw6⟩
                    subst hw6
                    go_wp2
                    go_ret
                    exact ⟨false, rfl, ⟨fun h => (by cases h), fun h => absurd h HN.out⟩, HBW5.out⟩
                  | true =>
                    rw [hcb] at HC1
                    have HCB := Lib.hid hcb
                    clear hcb
                    obtain ⟨x, hx⟩ : ∃ x, x = ni cs k := ⟨_, rfl⟩
                    rw [← hx] at hck HC1 HCB
                    have HXK := Lib.hid hx
                    clear hx
                    go_wp2_with fail
                    refine (HC1.out _).mono ?_
                    rintro e w6 ⟨rfl, hw6⟩
                    subst hw6
                    go_wp2
                    obtain ⟨w5, rfl⟩ : ∃ w5 : World, w5 = wr := ⟨_, rfl⟩
                    clear q0 q1 q2 q3 q4 q5 q6 q7 hck
                    go_loopw [7] (fun s wr => ∃ j : Nat, s = .int .i64 j ∧ j ≤ k ∧ Hid (Below w5.heap.size w5 wr) ∧ Hid (∀ a, a < j → ni cs a ≠ ni cs k)) (fun s _ => k - (intOf s).toNat)
                    case atStart => exact ⟨0, rfl, Nat.zero_le _, Lib.hid (Below.refl _ _), Lib.hid (fun j hj => absurd hj (Nat.not_lt_zero _))⟩
                    case round =>
                      obtain ⟨j, rfl, hjk, hb7, hno⟩ := hrel
                      obtain ⟨q0, q1, q2, q3, q4, q5, q6, q7⟩ := (HNB5.out.below hb7.out).cells
                      have HBD := Lib.hid (fun n => (hb7.out.trans (Drew.below (w := wr) (w' := wr.drewN n) ⟨n, rfl⟩ _) : Below w5.heap.size w5 (wr.drewN n)))
                      by_cases hj : j < k
                      · have d1 := HCS.out j (by omega) wr hb7.out
                        have d2 := HCS.out k hlt wr hb7.out
                        have hj' : (j : Int) < k := by omega
                        have hj2 : (j : Int) < nc := by omega
                        by_cases he : ni cs j = ni cs k
                        · have e1 : (ni cs j == ni cs k) = true := by rw [he]; simp
                          have HN : Hid (¬ SoundP lv nx lo hi la i nv nc ks cs fan) := Lib.hid (fun h => ((HKD.out.1 h) k hlt).2 j hj he)
                          clear he
                          generalize ni cs j = y at *
                          generalize ni cs k = z at *
                          go_wp2
                          go_quiet (fail)
                          go_wp2
                          go_ret
                          exact ⟨false, rfl, ⟨fun h => (by cases h), fun h => absurd h HN.out⟩, HBW5.out.trans ((HBD.out _).mono HBW5.out.size)⟩
                        · have e1 : (ni cs j == ni cs k) = false := beq_eq_false_iff_ne.2 he
                          have HNX : Hid (∀ a, a < j + 1 → ni cs a ≠ ni cs k) := Lib.hid (fun a ha => by
                            by_cases e : a = j
                            · subst e; exact he
                            · exact hno.out a (by omega))
                          clear he
                          generalize ni cs j = y at *
                          generalize hz : ni cs k = z at *
                          clear hz
                          go_wp2
                          go_quiet (fail)
                          go_wp2
                          go_roundw
                          case rel => exact ⟨j + 1, by go_num, by omega, Lib.hid (HBD.out _), HNX⟩
                          case measure => simp [intOf]; omega
                      · obtain rfl : j = k := by omega
                        have HNX : Hid (∀ a, a < j + 1 → cellB (ni cs a) = true ∧ ∀ b, b < a → ni cs b ≠ ni cs a) := Lib.hid (fun a ha => by
                          by_cases e : a = j
                          · subst e; exact ⟨by rw [← HXK.out]; exact HCB.out, hno.out⟩
                          · exact hall.out a (by omega))
                        go_wp2
                        go_roundw
                        case rel => exact ⟨j + 1, by go_num, by omega, Lib.hid (hb5.out.trans (hb7.out.mono hb5.out.size)), HNX⟩
                        case measure => simp [intOf]; omega
                · obtain rfl : k = nc := by omega
                  have HN : Hid (SoundP lv nx lo hi la i nv k ks cs fan) := Lib.hid (HKD.out.2 hall.out)
                  go_wp2
                  go_ret
                  exact ⟨true, rfl, ⟨fun _ => HN.out, fun _ => rfl⟩, HBW5.out⟩
end Go.Proofs.Ytefmnfplipdnmaa
