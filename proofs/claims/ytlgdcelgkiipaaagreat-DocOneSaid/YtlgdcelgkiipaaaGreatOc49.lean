/-
  Maps from revisions: to rows of units that a law keeps while its document goes on; to anything. Conditions: those that each states.
-/
import Derived.Test.YtlgdcelgkiipaaaGreatOc48
set_option maxRecDepth 100000
set_option linter.unusedVariables false
namespace Go.Proofs.YtlgdcelgkiipaaaGreat
open Go.RowKit
open Pl (Un)
theorem keyed64:Maps.Keyed Tryz.prog 27:=Maps.int_keyed Tryz.underlying27
theorem wf_u64n {r:Nat} (h:r<18446744073709551616):(Lit.int .u64 (r:Int)).wf=true:=by
 have e1:IntKind.u64.min=0:=by decide
 have e2:IntKind.u64.max=18446744073709551615:=by decide
 simp only [Lit.wf,e1,e2,Bool.and_eq_true,decide_eq_true_eq]
 omega
theorem key64 {r:Nat} (h:r<18446744073709551616):keyOf Tryz.prog 27 (.int .u64 (r:Int))=some (.int .u64 (r:Int)):=Maps.keyOf_int_mk Tryz.underlying27 (wf_u64n h)
theorem lit64 (r:Nat):WideAt.IsKeyLit (.int .u64 (r:Int)):=by first | trivial | simp [WideAt.IsKeyLit]
theorem lit_ne {a b:Nat} (h:a≠b):(Lit.int .u64 (a:Int))≠.int .u64 (b:Int):=fun e=>by
 injection e with _ e
 exact h (by omega)
section
variable {w w':World} {k k':Nat→Nat} {mo n b:Nat} {O:Nat→List Un} {f:Lit→Option Value}
theorem MapV.off {kt:TypeId} (h:MapV kt w b n f) {A:Option Addr} {m c:Nat} {l:List Un} (hu:Uns w w.heap.size A m c l):Apart (fun i=>i=b) A m:=fun h0 ad e hb=>by
 obtain ⟨D,⟨es,clock,h1,_⟩,_⟩:=h
 obtain ⟨g,o,e2,hg,hc⟩:=Uns.at_ hu h0
 rw [e] at e2
 cases e2
 have hb':g=b:=hb
 have h2:=(hc 0 h0).1
 rw [hb'] at h2
 simp [World.cell?,h1] at h2
def OpsM (w:World) (k:Nat→Nat) (mo n:Nat) (O:Nat→List Un):Prop :=
 ∃ f,MapV 27 w mo n f∧k mo=0∧∀ r:Nat,(f (.int .u64 (r:Int))=none∧O r=[])∨∃ A m c,f (.int .u64 (r:Int))=some (.slice A m c)∧KpU w k A m c (O r)
theorem OpsM.lt (h:OpsM w k mo n O):mo<w.heap.size:=by
 obtain ⟨f,h1,_⟩:=h
 exact h1.lt
theorem OpsM.then_ (h:OpsM w k mo n O) (hb:Below w.heap.size w w'):OpsM w' k mo n O:=by
 obtain ⟨f,h1,h2,h3⟩:=h
 refine ⟨f,h1.then_ hb,h2,fun r=>?_⟩
 rcases h3 r with h | ⟨A,m,c,h4,h5⟩
 ·exact .inl h
 ·exact .inr ⟨A,m,c,h4,h5.then_ hb⟩
theorem OpsM.mv (h:OpsM w k mo n O) (hv:Mv k w k' w'):OpsM w' k' mo n O:=by
 have hlt:=h.lt
 obtain ⟨f,h1,h2,h3⟩:=h
 refine ⟨f,h1.tn hv.tn (fun hn=>hn h2),(hv.eq mo hlt).trans h2,fun r=>?_⟩
 rcases h3 r with h | ⟨A,m,c,h4,h5⟩
 ·exact .inl h
 ·exact .inr ⟨A,m,c,h4,h5.mv hv⟩
theorem OpsM.look (h:OpsM w k mo n O) {r:Nat} (hr:r<18446744073709551616):∃ A m c,(Instr.lookup 68 (.map (some mo)) (.int .u64 (r:Int)) false).run Tryz.prog w=.ok (.slice A m c) w∧Uns w w.heap.size A m c (O r):=by
 obtain ⟨f,h1,h2,h3⟩:=h
 have hl:=h1.look keyed64 Tryz.underlying68 (Tryz.zeroValue29 w) (key64 hr) (lit64 r)
 rcases h3 r with ⟨h4,h5⟩ | ⟨A,m,c,h4,h5⟩
 ·rw [h4] at hl
  exact ⟨none,0,0,hl,by rw [h5];exact Rws.none_ _ _ _⟩
 ·rw [h4] at hl
  exact ⟨A,m,c,hl,h5.uns⟩
theorem OpsM.store (h:OpsM w k mo n O) (hn:n<maxLen) {r:Nat} (hr:r<18446744073709551616) {A:Option Addr} {m c:Nat} {l:List Un} (hu:KpU w k A m c l) :
  ∃ w' n',(Instr.mapUpdate 68 (.map (some mo)) (.int .u64 (r:Int)) (.slice A m c)).run Tryz.prog w=.ok () w'∧OpsM w' k mo n' (Pl.Dc.laid O r l)∧n'≤n + 1∧Tn (fun i=>i=mo) w w':=by
 obtain ⟨f,h1,h2,h3⟩:=h
 obtain ⟨w',hrun,h4,h5⟩:=h1.store keyed64 Tryz.underlying68 hn (.slice A m c) (key64 hr) (lit64 r)
 refine ⟨w',_,hrun,⟨_,h4,h2,fun q=>?_⟩,by split <;> omega,h5⟩
 by_cases e:q=r
 ·subst e
  refine .inr ⟨A,m,c,laidF_at _ _ _,?_⟩
  rw [Pl.Dc.laid_at]
  exact ⟨Rws.tn hu.uns h5 (h1.off hu.uns),hu.off⟩
 ·rw [laidF_ne _ _ (lit_ne e),Pl.Dc.laid_ne _ _ e]
  rcases h3 q with h | ⟨A2,m2,c2,h6,h7⟩
  ·exact .inl h
  ·exact .inr ⟨A2,m2,c2,h6,⟨Rws.tn h7.uns h5 (h1.off h7.uns),h7.off⟩⟩
def UptoM (w:World) (k:Nat→Nat) (mt n top:Nat):Prop:=∃ f,MapV 27 w mt n f∧k mt=0∧∀ r:Nat,top<r→f (.int .u64 (r:Int))=none
theorem UptoM.lt {top:Nat} (h:UptoM w k mo n top):mo<w.heap.size:=by
 obtain ⟨f,h1,_⟩:=h
 exact h1.lt
theorem UptoM.tn {T:Nat→Prop} {top:Nat} (h:UptoM w k mo n top) (ht:Tn T w w') (hT:¬ T mo):UptoM w' k mo n top:=by
 obtain ⟨f,h1,h2⟩:=h
 exact ⟨f,h1.tn ht hT,h2⟩
theorem UptoM.then_ {top:Nat} (h:UptoM w k mo n top) (hb:Below w.heap.size w w'):UptoM w' k mo n top:=h.tn (Tn.of (fun _=>False) hb) fun h=>h
theorem UptoM.mv {top:Nat} (h:UptoM w k mo n top) (hv:Mv k w k' w'):UptoM w' k' mo n top:=by
 have hlt:=h.lt
 obtain ⟨f,h1,h2,h3⟩:=h
 exact ⟨f,h1.tn hv.tn (fun hn=>hn h2),(hv.eq mo hlt).trans h2,h3⟩
theorem OpsM.tn {T:Nat→Prop} (h:OpsM w k mo n O) (ht:Tn T w w') (hT:¬ T mo) (hu:∀ A m c l,Uns w w.heap.size A m c l→Apart T A m):OpsM w' k mo n O:=by
 obtain ⟨f,h1,h2,h3⟩:=h
 refine ⟨f,h1.tn ht hT,h2,fun r=>?_⟩
 rcases h3 r with h | ⟨A,m,c,h4,h5⟩
 ·exact .inl h
 ·exact .inr ⟨A,m,c,h4,⟨Rws.tn h5.uns ht (hu _ _ _ _ h5.uns),h5.off⟩⟩
theorem UptoM.entry {top:Nat} (h:UptoM w k mo n top) (hn:n<maxLen) {t:TypeId} {e:TypeId} (ht:Tryz.prog.underlying t=some (.map 27 e)) {z:Value} (hz:(zeroValue e).run Tryz.prog w=.ok z w) (hr:top + 1<18446744073709551616) :
  ∃ (s:Value) (w1:World),(Instr.mapEntry t (.map (some mo)) (.int .u64 ((top + 1:Nat):Int))).run Tryz.prog w=.ok (.tuple #[z,s]) w1∧∀ v,∃ w2,(Instr.entryStore t (.map (some mo)) s v).run Tryz.prog w1=.ok () w2∧UptoM w2 k mo (n + 1) (top + 1)∧Tn (fun i=>i=mo) w w2:=by
 obtain ⟨f,h1,h2,h3⟩:=h
 obtain ⟨s,w1,g1,g2⟩:=h1.entry keyed64 ht hz hn (key64 hr) (lit64 _) (h3 _ (Nat.lt_succ_self _))
 refine ⟨s,w1,g1,fun v=>?_⟩
 obtain ⟨w2,g3,g4,g5⟩:=g2 v
 exact ⟨w2,g3,⟨_,g4,h2,fun r hr=>by rw [laidF_ne _ _ (lit_ne (by omega))];exact h3 r (by omega)⟩,g5⟩
theorem UptoM.ne {top p:Nat} {cs:Array Value} {t:TypeId} {fr:Nat × Nat} (h:UptoM w k mo n top) (hp:w.heap[p]?=some (.cells cs t fr)):p≠mo:=fun e=>by
 obtain ⟨f,⟨D,⟨es,clock,h1,_⟩,_⟩,_⟩:=h
 rw [e,h1] at hp
 cases hp
theorem OpsM.ne {p:Nat} {cs:Array Value} {t:TypeId} {fr:Nat × Nat} (h:OpsM w k mo n O) (hp:w.heap[p]?=some (.cells cs t fr)):p≠mo:=fun e=>by
 obtain ⟨f,⟨D,⟨es,clock,h1,_⟩,_⟩,_⟩:=h
 rw [e,h1] at hp
 cases hp
theorem UptoM.off {top:Nat} (h:UptoM w k mo n top) {A:Option Addr} {m c:Nat} {l:List Un} (hu:Uns w w.heap.size A m c l):Apart (fun i=>i=mo) A m:=by
 obtain ⟨f,h1,_⟩:=h
 exact h1.off hu
theorem OpsM.off (h:OpsM w k mo n O) {A:Option Addr} {m c:Nat} {l:List Un} (hu:Uns w w.heap.size A m c l):Apart (fun i=>i=mo) A m:=by
 obtain ⟨f,h1,_⟩:=h
 exact h1.off hu
theorem UptoM.no {top:Nat} (h:UptoM w k mo n top):k mo=0:=by
 obtain ⟨f,_,h1,_⟩:=h
 exact h1
theorem OpsM.no (h:OpsM w k mo n O):k mo=0:=by
 obtain ⟨f,_,h1,_⟩:=h
 exact h1
theorem DocW.tnz {W:World} {D M:Nat} {d:Pl.Dc} {T:Nat→Prop} (h:DocW W w D k d M) (ht:Tn T w w') (hT:∀ b,T b→k b=0∧W.heap.size≤b):DocW W w' D k d M:=by
 obtain ⟨m,h0,h1⟩:=h.at_
 exact ⟨⟨m,h0,h1.tn ht fun b hb hx=>hb (hT b hx).1⟩,h.new,ht.below h.below h.below.size fun b hb=>(hT b hb).2⟩
theorem DocW.rev {W:World} {D M:Nat} {d:Pl.Dc} (h:DocW W w D k d M):Calls Tryz.prog 17 #[.pointer (some ⟨D,0,none⟩)] w fun e w'=>e=.returned (.int .u64 (d.now:Int))∧w'=w:=by
 obtain ⟨m,h0,h1⟩:=h.at_
 exact h1.rev
theorem DocW.from_ {W:World} {D M:Nat} {d:Pl.Dc} (h:DocW W w D k d M):Calls Tryz.prog 26 #[.pointer (some ⟨D,0,none⟩)] w fun e w'=>e=.returned (.int .u64 (d.fr:Int))∧w'=w:=by
 obtain ⟨m,h0,h1⟩:=h.at_
 exact h1.from_
theorem DocW.drewN {W:World} {D M:Nat} {d:Pl.Dc} (h:DocW W w D k d M) (j:Nat):DocW W (w.drewN j) D k d M:=h.then_ (below_drewN _ _)
theorem DocW.ok {W:World} {D M:Nat} {d:Pl.Dc} (h:DocW W w D k d M):d.Ok:=by
 obtain ⟨m,h0,h1⟩:=h.at_
 exact h1.2
end
end Go.Proofs.YtlgdcelgkiipaaaGreat
