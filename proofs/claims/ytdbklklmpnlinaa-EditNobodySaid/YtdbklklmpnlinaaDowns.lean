/- find's course, down: what it tells of any view. Conditions: sizes that fit, numbers that are numbers. find's course, down, below a text: the same as Down. Conditions: sizes that fit, numbers that are numbers. find's course, down, at the end: the same as Down. Conditions: sizes that fit, numbers that are numbers. find.Leaf, Below, End; the law's way. Conditions: sizes that fit, numbers that are numbers. -/
import Derived.Test.YtdbklklmpnlinaaWayKit
import Derived.BigQuiet
import Derived.WalkMore
import Derived.Deep.QuietTactic
import Derived.Laws.EntriesVeiled
namespace Go.Proofs.Ytdbklklmpnlinaa
open Go.RowKit Go.Maps

/-- A value that is one's, its rows' values open. -/
theorem KnO.vals {w : World} {B : Nat} {v : Value} {kn : Kn} (h : KnO w B v kn) : ∃ (ak av ac : Option Addr) (ck cv cc : Nat), v = .agg #[.int .i64 kn.c, .int .u64 kn.wd, .int .u64 kn.vr, .int .i64 kn.n.lv, .string kn.n.lo, .string kn.n.hi, .bool kn.n.la, .int .i64 kn.n.nx, .slice ak kn.n.ks.length ck, .slice av kn.n.vs.length cv, .slice ac kn.n.cs.length cc] ∧ PO w B (.slice ak kn.n.ks.length ck) (.slice av kn.n.vs.length cv) (.slice ac kn.n.cs.length cc) kn ∧ NdAt w ak av ac kn.n.ks.length ck kn.n.vs.length cv kn.n.cs.length cc kn.n.ks kn.n.vs kn.n.cs := by
  obtain ⟨kv, vv, cw, rfl, h1, h2, h3⟩ := id h
  obtain ⟨ak, ck, rfl⟩ := h1.open
  obtain ⟨av, cv, rfl⟩ := h2.open
  obtain ⟨ac, cc, rfl⟩ := h3.open
  have r1 := h1.rd
  have r2 := h2.rd
  have r3 := h3.rd
  rw [List.length_map] at h r1
  rw [List.length_map] at h r2
  rw [List.length_map] at h r3
  exact ⟨ak, av, ac, ck, cv, cc, by simp only [List.length_map, Kn.val], h, ⟨r1, r2, r3⟩⟩

theorem last_at {cs : List Int} {x : Int} (h : lastF cs = some x) : ∃ j, j < cs.length ∧ x = ni cs j := by
  unfold lastF at h
  split at h
  · cases h
  · injection h with h
    exact ⟨cs.length - 1, by omega, h.symm⟩
theorem bdn (w : World) (n : Nat) : Below w.heap.size w (w.drewN n) := ⟨rfl, rfl, rfl, Nat.le_refl _, fun _ _ => rfl⟩
theorem PO.nd {w : World} {B : Nat} {ak av ac : Option Addr} {ck cv cc : Nat} {kn : Kn} (h : PO w B (.slice ak kn.n.ks.length ck) (.slice av kn.n.vs.length cv) (.slice ac kn.n.cs.length cc) kn) : NdAt w ak av ac kn.n.ks.length ck kn.n.vs.length cv kn.n.cs.length cc kn.n.ks kn.n.vs kn.n.cs := by
  obtain ⟨kv, vv, cw, e, h1, h2, h3⟩ := h
  unfold Kn.val at e
  injection e with e
  injection e with e
  simp only [List.cons.injEq, and_true, true_and] at e
  obtain ⟨rfl, rfl, rfl⟩ := e
  exact ⟨h1.rd, h2.rd, h3.rd⟩
/-- No row of a node lies in a row of what is known. -/
theorem off_row {w : World} {C n : Nat} {v : Value} {xs : List Value} (h : w.ownsRow C 43 11 v n xs) : Off w (fun j => v.ownBlock = some j) := by
  intro g cs t hS hg
  obtain ⟨_, cs', e'⟩ := fv_block h hS
  rw [e'] at hg
  injection hg with hg
  injection hg with _ e _
  subst e
  decide
theorem All2.kl {P Q : Value → Value → Value → Kn → Prop} {ls : List (List Value)} {ks : List Kn} (h : All2 (KL P) ls ks) (hPQ : ∀ a b c kn, P a b c kn → Q a b c kn) : All2 (KL Q) ls ks := by
  induction h with
  | nil => exact .nil
  | cons h _ ih => exact .cons (h.mono (fun a b c => hPQ a b c _)) ih

end Go.Proofs.Ytdbklklmpnlinaa

namespace Go.Proofs.Ytdbklklmpnlinaa
open Go.RowKit Go.Maps

end Go.Proofs.Ytdbklklmpnlinaa

namespace Go.Proofs.Ytdbklklmpnlinaa
open Go.RowKit Go.Maps

end Go.Proofs.Ytdbklklmpnlinaa

namespace Go.Proofs.Ytdbklklmpnlinaa
open Go.RowKit Go.Maps

theorem DownSays.from {kind M : Nat} {k : ByteArray} {ks : List Kn} {w w1 w' : World} {A b B N : Nat} {sv : Value} {ss : List (Int × Int)} {kk mm : Int} {e : Ending} (h : DownSays kind k ks M w1 w' B A b N sv ss kk mm e) (hb : Below w.heap.size w w1) : DownSays kind k ks M w w' B A b N sv ss kk mm e := by
  obtain ⟨ao, n, c, ok, k', m', h1, h2, h3, h4⟩ := h
  refine ⟨ao, n, c, ok, k', m', h1, h2, (Turn.of hb).trans h3, fun hs => ?_⟩
  have h5 := h4 hs
  unfold Ends at h5 ⊢
  split at h5
  · obtain ⟨a1, a2, a3, a4⟩ := h5
    exact ⟨a1, a2, a3, a4.base hb.size⟩
  · exact h5
  · exact h5
def kindN (kind : Int) : Nat := if kind = 1 then 1 else if kind = 2 then 2 else 0
section
variable {A b B N : Nat} {sv : Value} {ks : List Kn} {ss : List (Int × Int)} {kk mm : Int}
end
end Go.Proofs.Ytdbklklmpnlinaa
