/-
  Leases: what the laws' walks ask of New, All, There, Expire, Copy (LsA to LsE). Conditions: those that each states.
-/
import Derived.Test.YtjplchajopkpcaaLsD
import Derived.Test.YtjplchajopkpcaaLsE
namespace Go.Proofs.Ytjplchajopkpcaa
open Go.RowKit

/-- leases of the call's own -/
structure LeasesO (w : World) (B p b : Nat) (M : Pl.Mks) : Prop where
  p_ : B ≤ p
  b_ : B ≤ b
  at_ : LeasesW w p b M
/-- what New tells -/
def RetNl (w : World) (l : Pl.Mks) (e : Ending) (w' : World) : Prop :=
  (Pl.newL l = 0 → ∃ p b, e = .returned (.tuple #[.pointer (some ⟨p, 0, none⟩), .int .i64 0]) ∧ LeasesO w' w.heap.size p b (Pl.makeM l []).2) ∧ (Pl.newL l ≠ 0 → e = .returned (.tuple #[.pointer none, .int .i64 (Pl.newL l)])) ∧ Below w.heap.size w w'
/-- leases told -/
def RetLl (w : World) (M : Pl.Mks) (e : Ending) (w' : World) : Prop := ∃ A c, e = .returned (.slice A M.length c) ∧ Rws encLs w' w'.heap.size A M.length c M ∧ ((∀ a, A = some a → w.heap.size ≤ a.block) ∧ OwnR encLs 2 28 w' w.heap.size (.slice A M.length c) M) ∧ Below w.heap.size w w'
variable {w : World} {p b : Nat} {M : Pl.Mks}
theorem new_any {A : Option Addr} {n c : Nat} {l : Pl.Mks} (h : Rws encLs w w.heap.size A n c l) (hs : n ≤ 1000) (hl : ∀ o ∈ l, (0 ≤ o.1 ∧ o.1 < 4294967296) ∧ 0 ≤ o.2) :
    Calls Try.prog 8 #[.slice A n c] w (RetNl w l) := (new_any0 h hs hl).mono fun _ _ h => ⟨fun h0 => by
    obtain ⟨p, b, e, h1, h2, h3⟩ := h.1 h0
    exact ⟨p, b, e, h1, h2, h3⟩, h.2.1, h.2.2⟩
theorem all_any (h : LeasesW w p b M) : Calls Try.prog 20 #[.pointer (some ⟨p, 0, none⟩)] w (RetLl w M) := all_la h
theorem all_non {v : Value} (h : NonL w v) : Calls Try.prog 20 #[v] w fun e w' => e = .returned (.slice none 0 0) ∧ Below w.heap.size w w' := all_non0 h
theorem there_non {v : Value} (h : NonL w v) (now : Int) : Calls Try.prog 23 #[v, .int .u64 now] w fun e w' => e = .returned (.slice none 0 0) ∧ Below w.heap.size w w' := there_non0 h now
theorem expire_non {v : Value} (h : NonL w v) (now : Int) : Calls Try.prog 15 #[v, .int .u64 now] w fun e w' => e = .returned (.slice none 0 0) ∧ Below w.heap.size w w' := expire_non0 h now
theorem copy_non {v : Value} (h : NonL w v) : Calls Try.prog 18 #[v] w fun e w' => e = .returned (.pointer none) ∧ Below w.heap.size w w' := (copy_non0 h).mono fun _ _ ⟨h1, h2⟩ => ⟨h1, by rw [h2]; exact Below.refl _ _⟩
/-! ### of the call's own -/
variable {w0 w' : World}
theorem LeasesO.then_ {B : Nat} (h : LeasesO w B p b M) (hb : Below w.heap.size w w') : LeasesO w' B p b M := ⟨h.p_, h.b_, h.at_.then_ hb⟩
theorem LeasesO.below (h : LeasesO w w0.heap.size p b M) (hb : Below w0.heap.size w0 w) (ht : Tn (fun i => i = b) w w') : Below w0.heap.size w0 w' := ht.below hb hb.size (fun i e => by rw [e]; exact h.b_)
theorem LeasesO.lower {B B' : Nat} (h : LeasesO w B p b M) (hb : B' ≤ B) : LeasesO w B' p b M := ⟨Nat.le_trans hb h.p_, Nat.le_trans hb h.b_, h.at_⟩
/-- leases made of none -/
theorem new_none (w : World) : Calls Try.prog 8 #[.slice none 0 0] w fun e w' => ∃ p b, e = .returned (.tuple #[.pointer (some ⟨p, 0, none⟩), .int .i64 0]) ∧ LeasesO w' w.heap.size p b [] ∧ Below w.heap.size w w' :=
  (new_any (l := []) (Rws.none_ _ _ _) (by decide) (by simp)).mono fun _ _ h => by
    obtain ⟨p, b, h1, h2⟩ := h.1 rfl
    exact ⟨p, b, h1, h2, h.2.2⟩
theorem set_own {M' : Pl.Mks} {r : Int} (h : LeasesO w w0.heap.size p b M) (hb : Below w0.heap.size w0 w) {c : Int} (hc : 0 ≤ c ∧ c < 4294967296) {now : Int} (h0 : 0 ≤ now) (hs : Pl.setL M c now = (r, M')) :
    Calls Try.prog 11 #[.pointer (some ⟨p, 0, none⟩), .int .u32 c, .int .u64 now] w fun e w' => e = .returned (.int .i64 r) ∧ LeasesO w' w0.heap.size p b M' ∧ Below w0.heap.size w0 w' :=
  (set_any h.at_ hc now h0).mono fun _ _ ⟨h1, h2, h3⟩ => by
    rw [hs] at h1 h2
    exact ⟨h1, ⟨h.p_, h.b_, h2⟩, h.below hb h3⟩
theorem drop_own {M' : Pl.Mks} {r : Int} (h : LeasesO w w0.heap.size p b M) (hb : Below w0.heap.size w0 w) {c : Int} (hc : 0 ≤ c ∧ c < 4294967296) (hs : Pl.dropL M c = (r, M')) :
    Calls Try.prog 13 #[.pointer (some ⟨p, 0, none⟩), .int .u32 c] w fun e w' => e = .returned (.int .i64 r) ∧ LeasesO w' w0.heap.size p b M' ∧ Below w0.heap.size w0 w' :=
  (drop_any h.at_ hc).mono fun _ _ ⟨h1, h2, h3⟩ => by
    rw [hs] at h1 h2
    exact ⟨h1, ⟨h.p_, h.b_, h2⟩, h.below hb h3⟩
theorem live_own (h : LeasesO w w0.heap.size p b M) {c : Int} (hc : 0 ≤ c ∧ c < 4294967296) {now : Int} (h0 : 0 ≤ now) {r : Bool} (hl : Pl.liveM M c now = r) :
    Calls Try.prog 21 #[.pointer (some ⟨p, 0, none⟩), .int .u32 c, .int .u64 now] w fun e w' => e = .returned (.bool r) ∧ w' = w := hl ▸ live_any h.at_ hc now h0
end Go.Proofs.Ytjplchajopkpcaa
