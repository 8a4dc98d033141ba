/-
  PiecePlays: the program's table and the document's own in one memory, apart from each other and from what else the law holds (SP); what each call leaves of it. Conditions: those that each states.
-/
import Derived.Test.YtogmddneimhpeaaRefD
import Derived.Test.YtogmddneimhpeaaPceQ
import Derived.Test.YtogmddneimhpeaaPceP
import Derived.Test.YtogmddneimhpeaaPceN
namespace Go.Proofs.Ytogmddneimhpeaa
open Go.RowKit
open Pl (Pc Plc Tab On)

/-- the program's table t at p, the document's u at r, blocks K of the law's own: all apart, in memory of w0's call -/
def SP (w0 w : World) (p : Nat) (t : Tab) (m r : Nat) (u : Tab) (K : Nat → Prop) : Prop :=
  Below w0.heap.size w0 w ∧ (∀ x ∈ u.text, Pl.J x) ∧ (∀ b, K b → w0.heap.size ≤ b ∧ b < w.heap.size) ∧ ∃ F A n c, Tb w F p t m ∧ (∀ b, F b → w0.heap.size ≤ b) ∧ Rf w w0.heap.size r A n c (Pl.ones u) u.snd.length ∧ ¬ F r ∧ (∀ g, Value.ownBlock (.slice A n c) = some g → ¬ F g) ∧
    ∀ b, K b → ¬ F b ∧ b ≠ r ∧ Value.ownBlock (.slice A n c) ≠ some b
section
variable {w0 w w' : World} {p m r m' : Nat} {t u t' : Tab} {K K' T : Nat → Prop}
theorem SP.bel (h : SP w0 w p t m r u K) : Below w0.heap.size w0 w := h.1
theorem SP.js (h : SP w0 w p t m r u K) : ∀ x ∈ u.text, Pl.J x := h.2.1
theorem SP.tb (h : SP w0 w p t m r u K) : ∃ F, Tb w F p t m := by obtain ⟨_, _, _, F, _, _, _, h, _⟩ := h; exact ⟨F, h⟩
theorem SP.ref (h : SP w0 w p t m r u K) : ∃ A n c, Rf w w0.heap.size r A n c (Pl.ones u) u.snd.length := by obtain ⟨_, _, _, F, A, n, c, _, _, h, _⟩ := h; exact ⟨A, n, c, h⟩
theorem SP.kb (h : SP w0 w p t m r u K) : ∀ b, K b → w0.heap.size ≤ b ∧ b < w.heap.size := h.2.2.1
theorem SP.less (h : SP w0 w p t m r u K) (hK : ∀ b, K' b → K b) : SP w0 w p t m r u K' := by
  obtain ⟨h1, h2, h3, F, A, n, c, h4, h5, h6, h7, h8, h9⟩ := h
  exact ⟨h1, h2, fun b hb => h3 b (hK b hb), F, A, n, c, h4, h5, h6, h7, h8, fun b hb => h9 b (hK b hb)⟩
/-- blocks of K turned, and new memory -/
theorem SP.turn (h : SP w0 w p t m r u K) (ht : Tn T w w') (hT : ∀ b, T b → K b) : SP w0 w' p t m r u (fun b => K b ∨ w.heap.size ≤ b ∧ b < w'.heap.size) := by
  obtain ⟨h1, h2, h3, F, A, n, c, h4, h5, h6, h7, h8, h9⟩ := h
  refine ⟨ht.below h1 h1.size (fun b hb => (h3 b (hT b hb)).1), h2, fun b hb => ?_, F, A, n, c, h4.keep ht (fun b hb hg => (h9 b (hT b hg)).1 hb), h5, h6.tn ht (fun hg => (h9 r (hT r hg)).2.1 rfl) (fun g hg hT' => (h9 g (hT g hT')).2.2 hg), h7, h8, fun b hb => ?_⟩
  · rcases hb with hb | ⟨hb, hb2⟩
    · exact ⟨(h3 b hb).1, Nat.lt_of_lt_of_le (h3 b hb).2 ht.size⟩
    · exact ⟨Nat.le_trans h1.size hb, hb2⟩
  · rcases hb with hb | ⟨hb, hb2⟩
    · exact h9 b hb
    · refine ⟨fun hf => ?_, fun e => ?_, fun e => ?_⟩
      · have := h4.lt b hf; omega
      · have := h6.lt; omega
      · have := OwnR.lt h6.2.1 b e; omega
theorem SP.then_ (h : SP w0 w p t m r u K) (hb : Below w.heap.size w w') : SP w0 w' p t m r u K := (h.turn (T := fun _ => False) (Tn.of _ hb) (fun _ h => h.elim)).less (fun _ hb => Or.inl hb)
theorem SP.more (h : SP w0 w p t m r u K) (hb : Below w.heap.size w w') : SP w0 w' p t m r u (fun b => K b ∨ w.heap.size ≤ b ∧ b < w'.heap.size) := h.turn (T := fun _ => False) (Tn.of _ hb) (fun _ h => h.elim)
/-- a call of the program's table -/
theorem SP.did {E : Ending → Prop} {f : FuncId} {args : Array Value} (h : SP w0 w p t m r u K) (hc : ∀ F, Tb w F p t m → Calls Try.prog f args w fun e w' => E e ∧ Did w F p t' m' w') :
    Calls Try.prog f args w fun e w' => E e ∧ SP w0 w' p t' m' r u K ∧ ∀ b, K b → w'.heap[b]? = w.heap[b]? := by
  obtain ⟨h1, h2, h3, F, A, n, c, h4, h5, h6, h7, h8, h9⟩ := h
  refine (hc F h4).mono fun e w' ⟨he, F', k1, k2, k3, _⟩ => ⟨he, ⟨k2.below h1 h1.size h5, h2, fun b hb => ⟨(h3 b hb).1, Nat.lt_of_lt_of_le (h3 b hb).2 k2.size⟩, F', A, n, c, k1, fun b hb => (k3 b hb).elim (h5 b) (fun h => Nat.le_trans h1.size h), h6.tn k2 h7 h8, fun hf => ?_, fun g hg hf => ?_, fun b hb => ?_⟩, fun b hb => k2.block b (h3 b hb).2 (h9 b hb).1⟩
  · rcases k3 r hf with hf | hf
    · exact h7 hf
    · have := h6.lt; omega
  · rcases k3 g hf with hf | hf
    · exact h8 g hg hf
    · have := OwnR.lt h6.2.1 g hg; omega
  · refine ⟨fun hf => ?_, (h9 b hb).2⟩
    rcases k3 b hf with hf | hf
    · exact (h9 b hb).1 hf
    · have := (h3 b hb).2; omega
/-- a call of the document's table -/
theorem SP.refdid {E : Ending → Prop} {f : FuncId} {args : Array Value} {u' : Tab} (h : SP w0 w p t m r u K) (hj : ∀ x ∈ u'.text, Pl.J x)
    (hc : ∀ A n c, Rf w w0.heap.size r A n c (Pl.ones u) u.snd.length → Calls Try.prog f args w fun e w' => E e ∧ DidR w w0.heap.size r (Pl.ones u') u'.snd.length w') :
    Calls Try.prog f args w fun e w' => E e ∧ SP w0 w' p t m r u' K ∧ ∀ b, K b → w'.heap[b]? = w.heap[b]? := by
  obtain ⟨h1, h2, h3, F, A, n, c, h4, h5, h6, h7, h8, h9⟩ := h
  refine (hc A n c h6).mono fun e w' ⟨he, A', n', c', k1, k2, k3⟩ => ⟨he, ⟨k2.below h1 h1.size (fun b hb => by subst hb; exact h6.2.2.1), hj, fun b hb => ⟨(h3 b hb).1, Nat.lt_of_lt_of_le (h3 b hb).2 k2.size⟩, F, A', n', c', h4.keep k2 (fun b hb e => by subst e; exact h7 hb), h5, k1, h7, fun g hg hf => ?_, fun b hb => ⟨(h9 b hb).1, (h9 b hb).2.1, fun e => ?_⟩⟩, fun b hb => k2.block b (h3 b hb).2 (h9 b hb).2.1⟩
  · have := k3 g hg; have := h4.lt g hf; omega
  · have := k3 b e; have := (h3 b hb).2; omega
theorem DidR.same {base r n c ad : Nat} {A : Option Addr} {l : List On} (h : Rf w base r A n c l ad) : ∃ A n c, Rf w base r A n c l ad := ⟨A, n, c, h⟩
/-- a table of the document's made anew -/
theorem SP.renew {r' n' c' : Nat} {A' : Option Addr} {u' : Tab} (h : SP w0 w p t m r u K) (hb : Below w.heap.size w w') (hR : Rf w' w.heap.size r' A' n' c' (Pl.ones u') u'.snd.length) (hj : ∀ x ∈ u'.text, Pl.J x) : SP w0 w' p t m r' u' K := by
  have h' := h.then_ hb
  obtain ⟨h1, h2, h3, F, A, n, c, h4, h5, h6, h7, h8, h9⟩ := h
  have hk : ∀ b, K b → b < w.heap.size := fun b hb => (h3 b hb).2
  refine ⟨h'.1, hj, h'.2.2.1, F, A', n', c', h4.then_ hb, h5, ⟨hR.1, OwnR.lower hR.2.1 h1.size, Nat.le_trans h1.size hR.2.2.1, hR.2.2.2⟩, fun hf => ?_, fun g hg hf => ?_, fun b hb => ⟨(h9 b hb).1, fun e => ?_, fun e => ?_⟩⟩
  · have := h4.lt r' hf; have := hR.2.2.1; omega
  · have := h4.lt g hf; have := (OwnR.lt hR.2.1 g hg).1; omega
  · have := hk b hb; have := hR.2.2.1; omega
  · have := hk b hb; have := (OwnR.lt hR.2.1 b e).1; omega
/-- both made, one behind the other -/
theorem SP.start {w1 w2 : World} {F : Nat → Prop} {A : Option Addr} {n c : Nat} (hb : Below w0.heap.size w0 w) (h : Tb w1 F p t m) (hF : ∀ b, F b → w.heap.size ≤ b) (hb1 : Below w.heap.size w w1) (hR : Rf w2 w1.heap.size r A n c (Pl.ones u) u.snd.length) (hb2 : Below w1.heap.size w1 w2) (hj : ∀ x ∈ u.text, Pl.J x) (hK : ∀ b, K b → w0.heap.size ≤ b ∧ b < w.heap.size) : SP w0 w2 p t m r u K := by
  have h01 := hb.trans (hb1.mono hb.size)
  refine ⟨h01.trans (hb2.mono h01.size), hj, fun b h => ⟨(hK b h).1, Nat.lt_of_lt_of_le (hK b h).2 (Nat.le_trans hb1.size hb2.size)⟩, F, A, n, c, h.then_ hb2, fun b hf => Nat.le_trans hb.size (hF b hf), ⟨hR.1, OwnR.lower hR.2.1 h01.size, Nat.le_trans h01.size hR.2.2.1, hR.2.2.2⟩, fun hf => ?_, fun g hg hf => ?_, fun b hb => ⟨fun hf => ?_, fun e => ?_, fun e => ?_⟩⟩
  · have := h.lt r hf; have := hR.2.2.1; omega
  · have := h.lt g hf; have := (OwnR.lt hR.2.1 g hg).1; omega
  · have := hF b hf; have := (hK b hb).2; omega
  · have := hR.2.2.1; have := (hK b hb).2; have := hb1.size; omega
  · have := (OwnR.lt hR.2.1 b e).1; have := (hK b hb).2; have := hb1.size; omega
/-- a copy: the elder table's blocks are the law's own from now on -/
theorem SP.copied {q : Nat} {F2 : Nat → Prop} {F : Nat → Prop} {A : Option Addr} {n c : Nat} (h1 : Below w0.heap.size w0 w) (hj : ∀ x ∈ u.text, Pl.J x) (h4 : Tb w F p t m) (h5 : ∀ b, F b → w0.heap.size ≤ b) (h6 : Rf w w0.heap.size r A n c (Pl.ones u) u.snd.length) (h7 : ¬ F r) (h8 : ∀ g, Value.ownBlock (.slice A n c) = some g → ¬ F g)
    (hT : Tb w' F2 q t m) (hF2 : ∀ b, F2 b → w.heap.size ≤ b) (hb : Below w.heap.size w w') : SP w0 w' q t m r u F := by
  refine ⟨h1.trans (hb.mono h1.size), hj, fun b hf => ⟨h5 b hf, Nat.lt_of_lt_of_le (h4.lt b hf) hb.size⟩, F2, A, n, c, hT, fun b hf => Nat.le_trans h1.size (hF2 b hf), h6.then_ hb, fun hf => ?_, fun g hg hf => ?_, fun b hf => ⟨fun hf2 => ?_, fun e => ?_, fun e => h8 b e hf⟩⟩
  · have := hF2 r hf; have := h6.lt; omega
  · have := hF2 g hf; have := OwnR.lt h6.2.1 g hg; omega
  · have := hF2 b hf2; have := h4.lt b hf; omega
  · subst e; exact h7 hf
end
section
variable {w0 w : World} {p m r : Nat} {t u : Tab} {K : Nat → Prop}
/-- Insert of the document's table, whatever the place -/
theorem SP.refins {mu : Nat} (h : SP w0 w p t m r u K) (hu : u.Ok mu) (pos : Int) (B : Option Addr) (k d : Nat) (ds : List Int) (hB : Crs w w.heap.size B k d ds) (hBr : ∀ a, B = some a → 0 < k → a.block < w0.heap.size) (hn : mu + k ≤ 1000000) :
    Calls Try.prog 14 #[.pointer (some ⟨r, 0, none⟩), .int .i64 pos, .slice B k d] w fun e w' => e = .returned (.int .i64 (Pl.reachE u.L.length pos 0)) ∧ SP w0 w' p t m r (Pl.insT u pos ds) K ∧ ∀ b, K b → w'.heap[b]? = w.heap[b]? := by
  have hl := hu.len
  have hs : u.snd.length ≤ mu := by have := hu.2.2; omega
  by_cases hg : 0 ≤ pos ∧ pos ≤ (u.L.length : Int)
  · obtain ⟨q, rfl⟩ : ∃ q : Nat, pos = (q : Int) := ⟨pos.toNat, by omega⟩
    have hq : q ≤ u.L.length := by omega
    have e0 : Pl.reachE u.L.length (q : Int) 0 = 0 := Pl.reach0 (by omega) (by omega) (by omega)
    have ei : Pl.insT u (q : Int) ds = u.ins q ds := by unfold Pl.insT; rw [if_pos e0, Int.toNat_natCast]
    rw [e0, ei]
    refine SP.refdid h (fun x hx => ?_) (fun A n c hR => ?_)
    · rw [Pl.ins_text hu] at hx
      rcases List.mem_append.1 hx with hx | hx
      · rcases List.mem_append.1 hx with hx | hx
        · exact h.js x (List.mem_of_mem_take hx)
        · exact hB.js x hx
      · exact h.js x (List.mem_of_mem_drop hx)
    · have hnn : n = u.L.length := hR.rows.1.trans (Pl.len_ones u)
      have := ins_ref hR h.bel.size q (by omega) B k d ds hB (fun a ha h0 e => by have := hBr a ha h0; have := hR.2.2.1; omega) (by omega) (by omega)
      rw [← Pl.ones_ins hu, ← hB.len] at this
      rw [show (u.ins q ds).snd.length = u.snd.length + ds.length from by show (u.snd ++ ds).length = _; rw [List.length_append]]
      rw [hB.len] at this ⊢
      exact this
  · have e0 : Pl.reachE u.L.length pos 0 = 30 := Pl.reach30 (by omega)
    have ei : Pl.insT u pos ds = u := by unfold Pl.insT; rw [if_neg (by rw [e0]; decide)]
    rw [e0, ei]
    obtain ⟨A, n, c, hR⟩ := h.ref
    have hnn : n = u.L.length := hR.rows.1.trans (Pl.len_ones u)
    exact (ins_ref_no hR pos (by omega) (.slice B k d)).mono fun e w' ⟨he, hw⟩ => by subst hw; exact ⟨he, h, fun _ _ => rfl⟩
/-- Delete of the document's table, whatever the stretch -/
theorem SP.refdel {mu : Nat} (h : SP w0 w p t m r u K) (hu : u.Ok mu) (pos nn : Int) (hn : mu ≤ 1000000) :
    Calls Try.prog 16 #[.pointer (some ⟨r, 0, none⟩), .int .i64 pos, .int .i64 nn] w fun e w' => e = .returned (.int .i64 (Pl.reachE u.L.length pos nn)) ∧ SP w0 w' p t m r (Pl.delT u pos nn) K ∧ ∀ b, K b → w'.heap[b]? = w.heap[b]? := by
  have hl := hu.len
  by_cases hg : 0 ≤ pos ∧ 0 ≤ nn ∧ nn ≤ (u.L.length : Int) - pos
  · obtain ⟨q, rfl⟩ : ∃ q : Nat, pos = (q : Int) := ⟨pos.toNat, by omega⟩
    obtain ⟨k, rfl⟩ : ∃ k : Nat, nn = (k : Int) := ⟨nn.toNat, by omega⟩
    have hqk : q + k ≤ u.L.length := by omega
    have e0 : Pl.reachE u.L.length (q : Int) (k : Int) = 0 := Pl.reach0 (by omega) (by omega) (by omega)
    have ei : Pl.delT u (q : Int) (k : Int) = u.del q k := by unfold Pl.delT; rw [if_pos e0, Int.toNat_natCast, Int.toNat_natCast]
    rw [e0, ei]
    refine SP.refdid h (fun x hx => ?_) (fun A n c hR => ?_)
    · rw [Pl.del_text] at hx
      rcases List.mem_append.1 hx with hx | hx
      · exact h.js x (List.mem_of_mem_take hx)
      · exact h.js x (List.mem_of_mem_drop hx)
    · have hnn : n = u.L.length := hR.rows.1.trans (Pl.len_ones u)
      have := del_ref hR h.bel.size q k (by omega) (by omega)
      rw [← Pl.ones_del] at this
      exact this
  · have e0 : Pl.reachE u.L.length pos nn = 30 := Pl.reach30 (by omega)
    have ei : Pl.delT u pos nn = u := by unfold Pl.delT; rw [if_neg (by rw [e0]; decide)]
    rw [e0, ei]
    obtain ⟨A, n, c, hR⟩ := h.ref
    have hnn : n = u.L.length := hR.rows.1.trans (Pl.len_ones u)
    exact (del_ref_no hR pos nn (by rw [hnn]; exact e0) (by omega)).mono fun e w' ⟨he, hw⟩ => by subst hw; exact ⟨he, h, fun _ _ => rfl⟩
theorem SP.refread {mu : Nat} (h : SP w0 w p t m r u K) (hu : u.Ok mu) (pos nn : Int) (hn : mu ≤ 1000000) :
    Calls Try.prog 18 #[.pointer (some ⟨r, 0, none⟩), .int .i64 pos, .int .i64 nn] w (RetRead w (Pl.readT u pos nn) (Pl.reachE u.L.length pos nn)) := by
  obtain ⟨A, n, c, hR⟩ := h.ref
  have hl := hu.len
  have hnn : n = u.L.length := hR.rows.1.trans (Pl.len_ones u)
  have := rread_any hR (Pl.ones_J h.js) pos nn (by omega)
  rw [Pl.len_ones] at this
  rwa [show Pl.rdT (Pl.ones u) pos nn = Pl.readT u pos nn from by
    unfold Pl.rdT Pl.readT
    rw [Pl.len_ones, List.map_drop, Pl.ones_text]] at this
theorem SP.reftext {mu : Nat} (h : SP w0 w p t m r u K) (hu : u.Ok mu) (hn : mu ≤ 1000000) :
    Calls Try.prog 21 #[.pointer (some ⟨r, 0, none⟩)] w (RetC w u.text) := by
  obtain ⟨A, n, c, hR⟩ := h.ref
  have hl := hu.len
  have hnn : n = u.L.length := hR.rows.1.trans (Pl.len_ones u)
  have := text_ref hR (Pl.ones_J h.js) (by omega)
  rwa [Pl.ones_text] at this
theorem SP.refpieces {mu : Nat} (h : SP w0 w p t m r u K) (hu : u.Ok mu) (hn : mu ≤ 1000000) :
    Calls Try.prog 28 #[.pointer (some ⟨r, 0, none⟩)] w (RetQ w (Pl.group u.L)) := by
  obtain ⟨A, n, c, hR⟩ := h.ref
  have hl := hu.len
  have hnn : n = u.L.length := hR.rows.1.trans (Pl.len_ones u)
  refine pieces_ref hR (by omega) (fun q hq => ?_)
  have h1 := hu.1 q hq
  have h2 := hu.2.2
  have h3 : (u.buf q.1).length ≤ u.fst.length + u.snd.length := by cases q.1 <;> simp [Tab.buf]
  omega
theorem SP.reflen (h : SP w0 w p t m r u K) : ∃ A c, w.cell? ⟨r, 0, none⟩ = some (.slice A u.L.length c) := by
  obtain ⟨A, n, c, hR⟩ := h.ref
  have hnn : n = u.L.length := hR.rows.1.trans (Pl.len_ones u)
  exact ⟨A, c, by rw [← hnn]; exact hR.c0⟩
end
end Go.Proofs.Ytogmddneimhpeaa
