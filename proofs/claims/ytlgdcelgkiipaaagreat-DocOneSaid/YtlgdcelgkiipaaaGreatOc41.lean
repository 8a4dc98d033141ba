/-
  A document that is one (DocAt); New, Open, Edit, Undo, Text as wholes. Conditions: those that each states.
-/
import Derived.Test.YtlgdcelgkiipaaaGreatOc39
set_option maxRecDepth 100000
set_option linter.unusedVariables false
namespace Go.Proofs.YtlgdcelgkiipaaaGreat
open Go.RowKit
open Pl (Un)
def DocAt (w:World) (D:Nat) (k:Nat→Nat) (d:Pl.Dc) (m:Nat):Prop:=(∃ pa tx ls mk,DocM w D pa tx ls mk k d.cs.length d m)∧d.Ok
def DocP (w:World) (D:Nat) (k:Nat→Nat) (m:Nat) (dd:Pl.Dc × Pl.An) (e:Ending) (w':World):Prop :=
 ∃ k' m' v,e=.returned v∧DocAt w' D k' dd.1 m'∧m'≤m + 256∧Mv k w k' w'∧AnV w' (fun b=>w.heap.size≤b∧k' b=0) v dd.2
theorem DocR.p {w w':World} {D pa tx ls mk m:Nat} {k:Nat→Nat} {dd:Pl.Dc × Pl.An} {e:Ending} (h:DocR w D pa tx ls mk k m dd e w') (ho:dd.1.Ok):DocP w D k m dd e w':=by
 obtain ⟨k',m',v,h1,h2,h3,h4,h5⟩:=h
 exact ⟨k',m',v,h1,⟨⟨pa,tx,ls,mk,h2⟩,ho⟩,h3,h4,h5⟩
theorem call_told {d:Pl.Dc} {t:Int} (h:¬ 1099511627776<t) (f:Pl.Dc→Pl.Dc × Pl.An):d.call t f=told (f (d.touched t)):=Pl.Dc.call_on h f
theorem tells_fails (d:Pl.Dc) (rev:Nat) (b:Bool) (h:(d.tells rev b).e≠0):d.tells rev b=Pl.fails (d.tells rev b).e:=by
 unfold Pl.Dc.tells at h ⊢
 split at h
 ·rename_i h1;rw [if_pos h1];rfl
 ·split at h <;> exact absurd rfl h
section
variable {w w':World} {D m:Nat} {k:Nat→Nat} {d:Pl.Dc}
theorem DocAt.tn {T:Nat→Prop} (h:DocAt w D k d m) (ht:Tn T w w') (hT:∀ b,k b≠0→¬ T b):DocAt w' D k d m:=by
 obtain ⟨⟨pa,tx,ls,mk,h1⟩,h2⟩:=h
 exact ⟨⟨pa,tx,ls,mk,h1.tn ht hT⟩,h2⟩
theorem DocAt.then_ (h:DocAt w D k d m) (hb:Below w.heap.size w w'):DocAt w' D k d m:=h.tn (Tn.of (fun _=>False) hb) fun _ _ h=>h
theorem DocAt.lt (h:DocAt w D k d m):∀ b,k b≠0→b<w.heap.size:=by
 obtain ⟨⟨pa,tx,ls,mk,h1⟩,h2⟩:=h
 exact h1.lt
theorem DocAt.text (h:DocAt w D k d m):Calls Tryz.prog 24 #[.pointer (some ⟨D,0,none⟩)] w (RetC w d.cs):=by
 obtain ⟨⟨pa,tx,ls,mk,h1⟩,h2⟩:=h
 exact text_doc h1
theorem DocAt.rev (h:DocAt w D k d m):Calls Tryz.prog 17 #[.pointer (some ⟨D,0,none⟩)] w fun e w'=>e=.returned (.int .u64 (d.now:Int))∧w'=w:=by
 obtain ⟨⟨pa,tx,ls,mk,h1⟩,h2⟩:=h
 exact rev_doc h1
theorem DocAt.from_ (h:DocAt w D k d m):Calls Tryz.prog 26 #[.pointer (some ⟨D,0,none⟩)] w fun e w'=>e=.returned (.int .u64 (d.fr:Int))∧w'=w:=by
 obtain ⟨⟨pa,tx,ls,mk,h1⟩,h2⟩:=h
 exact from_doc h1
theorem at_edit {d:Pl.Dc} {x y t:Int} (ht:¬ 1099511627776<t) (base:Nat) (row:List Un):d.edit x y base row t=told (if Pl.liveM (d.touched t).L x t=true then (d.touched t).editF x y base row t else (d.touched t,Pl.fails 36)):=by
 unfold Pl.Dc.edit Pl.Dc.at_
 rw [call_told ht]
 simp only
 by_cases hl:Pl.liveM (d.touched t).L x t=true
 ·rw [if_pos hl,if_pos hl]
  unfold Pl.Dc.editF
  by_cases he:(d.touched t).editE x y base row≠0
  ·rw [if_pos he,if_pos he];exact congrArg told (if_neg he)
  ·rw [if_neg he,if_neg he];rfl
 ·rw [if_neg hl,if_neg hl]
theorem at_undo {d:Pl.Dc} {x y t:Int} (ht:¬ 1099511627776<t) (rev:Nat):d.undo x y rev t=told (if Pl.liveM (d.touched t).L x t=true then (d.touched t).undoF x y rev t else (d.touched t,Pl.fails 36)):=by
 unfold Pl.Dc.undo Pl.Dc.at_
 rw [call_told ht]
 simp only
 by_cases hl:Pl.liveM (d.touched t).L x t=true
 ·rw [if_pos hl,if_pos hl]
  unfold Pl.Dc.undoF
  by_cases he:(d.touched t).undoE x y rev≠0
  ·rw [if_pos he,if_pos he];exact congrArg told (if_neg he)
  ·rw [if_neg he,if_neg he];rfl
 ·rw [if_neg hl,if_neg hl]
theorem box_zero (k:Nat→Nat) (b:Nat) (h:∀ b,k b≠0→b<w.heap.size) (hb:w.heap.size≤b):k b=0:=by
 rcases Nat.eq_zero_or_pos (k b) with h1 | h1
 ·exact h1
 ·have:=h b (by omega);omega
set_option maxHeartbeats 1000000 in
theorem open_any (h:DocAt w D k d m) {c:Int} (hc:0≤c∧c<4294967296) (rev:Nat) (hrev:rev≤18446744073709551615) (now:Int) (h0:0≤now) (hnow:now≤1099511627776) (ht:d.t + 1<18446744073709551616) :
  Calls Tryz.prog 14 #[.pointer (some ⟨D,0,none⟩),.int .u32 c,.int .u64 (rev:Int),.int .u64 now] w (DocP w D k m (d.open_ c rev now)):=by
 obtain ⟨⟨pa,tx,ls,mk,h⟩,hok⟩:=h
 obtain ⟨X,hX⟩ : ∃ X,X=(d.touched now).openF c rev now:=⟨_,rfl⟩
 obtain ⟨X2,hX2⟩ : ∃ X2,X2=X:=⟨_,rfl⟩
 have hE:d.open_ c rev now=told X2:=by rw [hX2,hX];exact by rw [Pl.Dc.open_eq];exact call_told (by omega) _
 have hok2:=Pl.Dc.ok_open hok (c:=c) (t:=now) h0 (by omega) rev
 rw [hE] at hok2 ⊢
 obtain ⟨R,hR⟩ : ∃ R,R=DocP w D k m (told X2):=⟨_,rfl⟩
 rw [← hR]
 have HR:=Lib.hid hR
 have HH:=Lib.hid h
 have HOK:=Lib.hid hok2
 have HO:=Lib.hid hok
 clear h hR hok2 hE hok
 go_enter Tryz.func14,Tryz.ntmps14
 go_wp2_with fail
 obtain ⟨os,hos⟩ : ∃ os:List Obj,os=[.cells #[.pointer (some ⟨D,0,none⟩)] 23,.cells #[.int .u32 c] 28,.cells #[.int .u64 (rev:Int)] 27,.cells #[.int .u64 now] 27,.cells #[.int .i64 0,.int .u32 0,.int .u64 0,.bool false,.slice none 0 0,.slice none 0 0,.slice none 0 0] 37]:=⟨_,rfl⟩
 have hW:allocs w os=(((((w.alloc (.cells #[.pointer (some ⟨D,0,none⟩)] 23)).alloc (.cells #[.int .u32 c] 28)).alloc (.cells #[.int .u64 (rev:Int)] 27)).alloc (.cells #[.int .u64 now] 27)).alloc (.cells #[.int .i64 0,.int .u32 0,.int .u64 0,.bool false,.slice none 0 0,.slice none 0 0,.slice none 0 0] 37)):=by rw [hos];rfl
 rw [← hW]
 have hB:=allocs_below os w
 have e0:=allocs_at os w 0 _ (by rw [hos];rfl)
 have e1:=allocs_at os w 1 _ (by rw [hos];rfl)
 have e2:=allocs_at os w 2 _ (by rw [hos];rfl)
 have e3:=allocs_at os w 3 _ (by rw [hos];rfl)
 have e4:=allocs_at os w 4 _ (by rw [hos];rfl)
 clear hW hos
 generalize allocs w os=W0 at hB e0 e1 e2 e3 e4 ⊢
 clear os
 have hlt:=HH.out.lt
 have hz:=fun b (hb:w.heap.size≤b)=>box_zero k b hlt hb
 have hs:=lt_of_block e4
 have hC:=touched_any (HH.out.then_ hB) now h0 hnow ht 62 #[.pointer (some ⟨w.heap.size + 1 + 1,0,none⟩),.pointer (some ⟨w.heap.size,0,none⟩),.pointer (some ⟨w.heap.size + 1,0,none⟩),.pointer (some ⟨w.heap.size + 1 + 1 + 1,0,none⟩)] X
  (fun args w=>by simp [go_sem]) (fun he=>by
   rw [hX] at he ⊢
   unfold Pl.Dc.openF at he ⊢
   by_cases h1:((d.touched now).tells rev (rev == 0)).e≠0
   ·rw [if_pos h1];exact tells_fails _ _ _ h1
   ·rw [if_neg h1] at he ⊢
    by_cases h2:(Pl.setL (d.touched now).L c now).1≠0
    ·rw [if_pos h2];rfl
    ·rw [if_neg h2] at he;exact absurd he h1) (fun w1 al h1 h2 h3 h4 _=>by
   rw [hX]
   exact open1_any h1 (Pl.Dc.ok_touched HO.out now) hc rev hrev now h0 (Pl.live_there HO.out.m.low c now) h4 (hz al (Nat.le_trans hB.size h3)) _ _ _ _ (box_mv h2 e2 hlt (by omega)) (box_mv h2 e0 hlt (by omega)) (box_mv h2 e1 hlt (by omega)) (box_mv h2 e3 hlt (by omega)) ⟨⟨hz _ (by omega),hz _ (by omega),hz _ (by omega),hz _ (by omega)⟩,by omega⟩)
 rw [← hX2] at hC
 have HC:=Lib.hid hC
 have HE:=Lib.hid (And.intro hB (And.intro hlt (show AnAt W0 (w.heap.size + 4) 0 0 false none 0 0 none 0 0 none 0 0 from e4)))
 clear hC hB e0 e1 e2 e3 e4 hlt hX hX2 hz hs
 refine HC.out.mono ?_
 rintro e w2 ⟨k',m',v,rfl,hd,hm,hmv,A,n,c5,A2,n2,c2,A3,n3,c3,rfl,hr⟩
 have hr4:w.heap.size + 4<W0.heap.size:=HE.out.2.2.lt
 have h4:AnAt w2 (w.heap.size + 4) 0 0 false none 0 0 none 0 0 none 0 0:=box_mv hmv HE.out.2.2 HE.out.2.1 (by omega)
 have HD:=Lib.hid (And.intro hd (And.intro hm (And.intro hmv hr)))
 have H4:=Lib.hid h4
 have HR4:=Lib.hid hr4
 obtain ⟨d0,d1,d2,d3,d4,d5,d6⟩:=h4.cells
 have g7:=h4.frozen
 clear hd hm hmv hr h4 hr4 HC
 generalize told X2=Y at HD HR HOK ⊢
 obtain ⟨dq,⟨e7,rev7,wh7,tx7,op7,se7⟩⟩:=Y
 simp only at HD
 unfold aval
 simp only
 rw [show w.heap.size + 4=w.heap.size + 1 + 1 + 1 + 1 from rfl] at *
 go_wp2_with fail
 refine bodyPost_ret (results_an rfl (by rfl) (H4.out.sets _ _ _ A n c5 A2 n2 c2 A3 n3 c3)) rfl ?_
 rw [HR.out]
 exact DocR.p (DocR.end_ HE.out.2.1 HE.out.1 (by omega) HR4.out HD.out.1 HD.out.2.1 HD.out.2.2.1 HD.out.2.2.2 _ _ _ _ _ _ _) HOK.out
set_option maxHeartbeats 1000000 in
theorem edit_any (h:DocAt w D k d m) {x y:Int} (hx:0≤x∧x<4294967296) (base:Nat) (hbase:base≤18446744073709551615) (A0:Option Addr) (n0 c0:Nat) (row:List Un) (hu:Uns w w.heap.size A0 n0 c0 row) (hap:Apart (fun b=>k b≠0) A0 n0) (hn0:n0≤1000) (now:Int) (h0:0≤now) (hnow:now≤1099511627776) (ht:d.t + 1<18446744073709551616) (hm:m + 256≤1073741824) :
  Calls Tryz.prog 15 #[.pointer (some ⟨D,0,none⟩),.agg #[.int .u32 x,.int .u64 y],.int .u64 (base:Int),.slice A0 n0 c0,.int .u64 now] w (DocP w D k m (d.edit x y base row now)):=by
 obtain ⟨⟨pa,tx,ls,mk,h⟩,hok⟩:=h
 obtain ⟨X,hX⟩ : ∃ X,X=(d.touched now).editF x y base row now:=⟨_,rfl⟩
 obtain ⟨X2,hX2⟩ : ∃ X2,X2=if Pl.liveM (d.touched now).L x now=true then X else (d.touched now,Pl.fails 36):=⟨_,rfl⟩
 have hE:d.edit x y base row now=told X2:=by rw [hX2,hX];exact at_edit (by omega) base row
 have hok2:=Pl.Dc.ok_edit hok (x:=x) (y:=y) (t:=now) h0 (by omega) base row
 rw [hE] at hok2 ⊢
 obtain ⟨R,hR⟩ : ∃ R,R=DocP w D k m (told X2):=⟨_,rfl⟩
 rw [← hR]
 have HR:=Lib.hid hR
 have HH:=Lib.hid h
 have HOK:=Lib.hid hok2
 have HO:=Lib.hid hok
 clear h hR hok2 hE hok
 go_enter Tryz.func15,Tryz.ntmps15
 go_wp2_with fail
 obtain ⟨os,hos⟩ : ∃ os:List Obj,os=[.cells #[.pointer (some ⟨D,0,none⟩)] 23,.cells #[.int .u32 x,.int .u64 y] 43,.cells #[.int .u64 (base:Int)] 27,.cells #[.slice A0 n0 c0] 29,.cells #[.int .u64 now] 27,.cells #[.int .i64 0,.int .u32 0,.int .u64 0,.bool false,.slice none 0 0,.slice none 0 0,.slice none 0 0] 37]:=⟨_,rfl⟩
 have hW:allocs w os=((((((w.alloc (.cells #[.pointer (some ⟨D,0,none⟩)] 23)).alloc (.cells #[.int .u32 x,.int .u64 y] 43)).alloc (.cells #[.int .u64 (base:Int)] 27)).alloc (.cells #[.slice A0 n0 c0] 29)).alloc (.cells #[.int .u64 now] 27)).alloc (.cells #[.int .i64 0,.int .u32 0,.int .u64 0,.bool false,.slice none 0 0,.slice none 0 0,.slice none 0 0] 37)):=by rw [hos];rfl
 rw [← hW]
 have hB:=allocs_below os w
 have e0:=allocs_at os w 0 _ (by rw [hos];rfl)
 have e1:=allocs_at os w 1 _ (by rw [hos];rfl)
 have e2:=allocs_at os w 2 _ (by rw [hos];rfl)
 have e3:=allocs_at os w 3 _ (by rw [hos];rfl)
 have e4:=allocs_at os w 4 _ (by rw [hos];rfl)
 have e5:=allocs_at os w 5 _ (by rw [hos];rfl)
 clear hW hos
 generalize allocs w os=W0 at hB e0 e1 e2 e3 e4 e5 ⊢
 clear os
 have hlt:=HH.out.lt
 have hz:=fun b (hb:w.heap.size≤b)=>box_zero k b hlt hb
 have hs:=lt_of_block e5
 have hC:=at_any (HH.out.then_ hB) now h0 hnow ht hx 68 #[.pointer (some ⟨w.heap.size + 1,0,none⟩),.pointer (some ⟨w.heap.size + 1 + 1 + 1,0,none⟩),.pointer (some ⟨w.heap.size,0,none⟩),.pointer (some ⟨w.heap.size + 1 + 1,0,none⟩),.pointer (some ⟨w.heap.size + 1 + 1 + 1 + 1,0,none⟩)] X
  (fun args w=>by simp [go_sem]) (fun he=>by
   rw [hX] at he ⊢
   unfold Pl.Dc.editF at he ⊢
   by_cases h1:(d.touched now).editE x y base row≠0
   ·rw [if_pos h1];rfl
   ·rw [if_neg h1] at he;exact absurd rfl he) (fun w1 al h1 h2 h3 h4 hl _=>by
   rw [hX]
   exact edit1_any h1 (Pl.Dc.ok_touched HO.out now) hx base hbase now h0 hnow hl h4 (hz al (Nat.le_trans hB.size h3)) hm A0 n0 c0 row (Rws.tn hu ((Mv.of k hB).trans h2).tn hap) hn0 _ _ _ _ _ (box_mv h2 e1 hlt (by omega)) (box_mv h2 e3 hlt (by omega)) (box_mv h2 e0 hlt (by omega)) (box_mv h2 e2 hlt (by omega)) (box_mv h2 e4 hlt (by omega)) ⟨⟨hz _ (by omega),hz _ (by omega),hz _ (by omega),hz _ (by omega),hz _ (by omega)⟩,by omega⟩)
 rw [← hX2] at hC
 have HC:=Lib.hid hC
 have HE:=Lib.hid (And.intro hB (And.intro hlt (show AnAt W0 (w.heap.size + 5) 0 0 false none 0 0 none 0 0 none 0 0 from e5)))
 clear hC hB e0 e1 e2 e3 e4 e5 hlt hX hX2 hz hs hu hap
 refine HC.out.mono ?_
 rintro e w2 ⟨k',m',v,rfl,hd,hm,hmv,A,n,c5,A2,n2,c2,A3,n3,c3,rfl,hr⟩
 have hr4:w.heap.size + 5<W0.heap.size:=HE.out.2.2.lt
 have h4:AnAt w2 (w.heap.size + 5) 0 0 false none 0 0 none 0 0 none 0 0:=box_mv hmv HE.out.2.2 HE.out.2.1 (by omega)
 have HD:=Lib.hid (And.intro hd (And.intro hm (And.intro hmv hr)))
 have H4:=Lib.hid h4
 have HR4:=Lib.hid hr4
 obtain ⟨d0,d1,d2,d3,d4,d5,d6⟩:=h4.cells
 have g7:=h4.frozen
 clear hd hm hmv hr h4 hr4 HC
 generalize told X2=Y at HD HR HOK ⊢
 obtain ⟨dq,⟨e7,rev7,wh7,tx7,op7,se7⟩⟩:=Y
 simp only at HD
 unfold aval
 simp only
 rw [show w.heap.size + 5=w.heap.size + 1 + 1 + 1 + 1 + 1 from rfl] at *
 go_wp2_with fail
 refine bodyPost_ret (results_an rfl (by rfl) (H4.out.sets _ _ _ A n c5 A2 n2 c2 A3 n3 c3)) rfl ?_
 rw [HR.out]
 exact DocR.p (DocR.end_ HE.out.2.1 HE.out.1 (by omega) HR4.out HD.out.1 HD.out.2.1 HD.out.2.2.1 HD.out.2.2.2 _ _ _ _ _ _ _) HOK.out
set_option maxHeartbeats 1000000 in
theorem undo_any (h:DocAt w D k d m) {x y:Int} (hx:0≤x∧x<4294967296) (rev:Nat) (hrev:rev≤18446744073709551615) (now:Int) (h0:0≤now) (hnow:now≤1099511627776) (ht:d.t + 1<18446744073709551616) (hm:m + 256≤1073741824) :
  Calls Tryz.prog 37 #[.pointer (some ⟨D,0,none⟩),.agg #[.int .u32 x,.int .u64 y],.int .u64 (rev:Int),.int .u64 now] w (DocP w D k m (d.undo x y rev now)):=by
 obtain ⟨⟨pa,tx,ls,mk,h⟩,hok⟩:=h
 obtain ⟨X,hX⟩ : ∃ X,X=(d.touched now).undoF x y rev now:=⟨_,rfl⟩
 obtain ⟨X2,hX2⟩ : ∃ X2,X2=if Pl.liveM (d.touched now).L x now=true then X else (d.touched now,Pl.fails 36):=⟨_,rfl⟩
 have hE:d.undo x y rev now=told X2:=by rw [hX2,hX];exact at_undo (by omega) rev
 have hok2:=Pl.Dc.ok_undo hok (x:=x) (y:=y) (t:=now) h0 (by omega) rev
 rw [hE] at hok2 ⊢
 obtain ⟨R,hR⟩ : ∃ R,R=DocP w D k m (told X2):=⟨_,rfl⟩
 rw [← hR]
 have HR:=Lib.hid hR
 have HH:=Lib.hid h
 have HOK:=Lib.hid hok2
 have HO:=Lib.hid hok
 clear h hR hok2 hE hok
 go_enter Tryz.func37,Tryz.ntmps37
 go_wp2_with fail
 obtain ⟨os,hos⟩ : ∃ os:List Obj,os=[.cells #[.pointer (some ⟨D,0,none⟩)] 23,.cells #[.int .u32 x,.int .u64 y] 43,.cells #[.int .u64 (rev:Int)] 27,.cells #[.int .u64 now] 27,.cells #[.int .i64 0,.int .u32 0,.int .u64 0,.bool false,.slice none 0 0,.slice none 0 0,.slice none 0 0] 37]:=⟨_,rfl⟩
 have hW:allocs w os=(((((w.alloc (.cells #[.pointer (some ⟨D,0,none⟩)] 23)).alloc (.cells #[.int .u32 x,.int .u64 y] 43)).alloc (.cells #[.int .u64 (rev:Int)] 27)).alloc (.cells #[.int .u64 now] 27)).alloc (.cells #[.int .i64 0,.int .u32 0,.int .u64 0,.bool false,.slice none 0 0,.slice none 0 0,.slice none 0 0] 37)):=by rw [hos];rfl
 rw [← hW]
 have hB:=allocs_below os w
 have e0:=allocs_at os w 0 _ (by rw [hos];rfl)
 have e1:=allocs_at os w 1 _ (by rw [hos];rfl)
 have e2:=allocs_at os w 2 _ (by rw [hos];rfl)
 have e3:=allocs_at os w 3 _ (by rw [hos];rfl)
 have e4:=allocs_at os w 4 _ (by rw [hos];rfl)
 clear hW hos
 generalize allocs w os=W0 at hB e0 e1 e2 e3 e4 ⊢
 clear os
 have hlt:=HH.out.lt
 have hz:=fun b (hb:w.heap.size≤b)=>box_zero k b hlt hb
 have hs:=lt_of_block e4
 have hC:=at_any (HH.out.then_ hB) now h0 hnow ht hx 105 #[.pointer (some ⟨w.heap.size + 1 + 1,0,none⟩),.pointer (some ⟨w.heap.size,0,none⟩),.pointer (some ⟨w.heap.size + 1,0,none⟩),.pointer (some ⟨w.heap.size + 1 + 1 + 1,0,none⟩)] X
  (fun args w=>by simp [go_sem]) (fun he=>by
   rw [hX] at he ⊢
   unfold Pl.Dc.undoF at he ⊢
   by_cases h1:(d.touched now).undoE x y rev≠0
   ·rw [if_pos h1];rfl
   ·rw [if_neg h1] at he;exact absurd rfl he) (fun w1 al h1 h2 h3 h4 hl _=>by
   rw [hX]
   exact undo1_any h1 (Pl.Dc.ok_touched HO.out now) hx rev hrev now h0 hnow hl h4 (hz al (Nat.le_trans hB.size h3)) hm _ _ _ _ (box_mv h2 e2 hlt (by omega)) (box_mv h2 e0 hlt (by omega)) (box_mv h2 e1 hlt (by omega)) (box_mv h2 e3 hlt (by omega)) ⟨⟨hz _ (by omega),hz _ (by omega),hz _ (by omega),hz _ (by omega)⟩,by omega⟩)
 rw [← hX2] at hC
 have HC:=Lib.hid hC
 have HE:=Lib.hid (And.intro hB (And.intro hlt (show AnAt W0 (w.heap.size + 4) 0 0 false none 0 0 none 0 0 none 0 0 from e4)))
 clear hC hB e0 e1 e2 e3 e4 hlt hX hX2 hz hs
 refine HC.out.mono ?_
 rintro e w2 ⟨k',m',v,rfl,hd,hm,hmv,A,n,c5,A2,n2,c2,A3,n3,c3,rfl,hr⟩
 have hr4:w.heap.size + 4<W0.heap.size:=HE.out.2.2.lt
 have h4:AnAt w2 (w.heap.size + 4) 0 0 false none 0 0 none 0 0 none 0 0:=box_mv hmv HE.out.2.2 HE.out.2.1 (by omega)
 have HD:=Lib.hid (And.intro hd (And.intro hm (And.intro hmv hr)))
 have H4:=Lib.hid h4
 have HR4:=Lib.hid hr4
 obtain ⟨d0,d1,d2,d3,d4,d5,d6⟩:=h4.cells
 have g7:=h4.frozen
 clear hd hm hmv hr h4 hr4 HC
 generalize told X2=Y at HD HR HOK ⊢
 obtain ⟨dq,⟨e7,rev7,wh7,tx7,op7,se7⟩⟩:=Y
 simp only at HD
 unfold aval
 simp only
 rw [show w.heap.size + 4=w.heap.size + 1 + 1 + 1 + 1 from rfl] at *
 go_wp2_with fail
 refine bodyPost_ret (results_an rfl (by rfl) (H4.out.sets _ _ _ A n c5 A2 n2 c2 A3 n3 c3)) rfl ?_
 rw [HR.out]
 exact DocR.p (DocR.end_ HE.out.2.1 HE.out.1 (by omega) HR4.out HD.out.1 HD.out.2.1 HD.out.2.2.1 HD.out.2.2.2 _ _ _ _ _ _ _) HOK.out
end
end Go.Proofs.YtlgdcelgkiipaaaGreat
