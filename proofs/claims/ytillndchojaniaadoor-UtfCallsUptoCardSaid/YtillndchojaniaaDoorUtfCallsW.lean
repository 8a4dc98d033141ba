/-
  The walk of copybooklaw04.UtfCalls: it returns true for every text and all bytes of which four bytes each are within the model's reach; nothing that was there turned. Condition: the tables stand.
-/
import Derived.Test.YtillndchojaniaaDoorUtfK
namespace Go.Proofs.YtillndchojaniaaDoor.utfCalls
open Go.RowKit

set_option maxRecDepth 100000 in
set_option maxHeartbeats 2000000 in
theorem walk (w : World) (hT : Tab w) (A : Option Addr) (n c : Nat) (cs : List Int) (hA : Crs w w.heap.size A n c cs) (hr : n * 4 ≤ 140737488351232) (B : Option Addr) (m d : Nat) (bs : List Nat) (hB : Bys w w.heap.size B m d bs) (hs : m * 4 ≤ 140737488351232) (x : Int) (hx : Pl.J x) :
    Calls Tryd.prog 3 #[.slice A n c, .slice B m d, .int .i32 x] w fun e w' => e = .returned (.bool true) ∧ Below w.heap.size w w' := by
  have HA := Lib.hid hA
  have HB := Lib.hid hB
  have HT := Lib.hid hT
  have HR := Lib.hid (And.intro hr hs)
  have HX := Lib.hid hx
  clear hA hB hT hr hs hx
  go_enter Tryd.func3, Tryd.ntmps3
  go_wp2_with fail
  refine (enc_any A n c cs w HT.out HA.out HR.out.1).mono ?_
  rintro e w1 ⟨A1, n1, c1, rfl, hO1, hb1⟩
  have HB1 := Lib.hid hb1
  have HO1 := Lib.hid hO1
  obtain ⟨er, her⟩ : ∃ er, er = Pl.encE cs := ⟨_, rfl⟩
  have HER := Lib.hid her
  rw [← her]
  clear hO1 her
  go_wp2_with fail
  refine (renc_any A n c cs w1 (HA.out.then_ HB1.out) HR.out.1).mono ?_
  rintro e w2 ⟨A2, n2, c2, rfl, hO2, hb2⟩
  have HB2 := Lib.hid hb2
  have HO2 := Lib.hid hO2
  have HB02 := Lib.hid (HB1.out.trans (hb2.mono HB1.out.size))
  rw [← HER.out]
  clear hO2 hb1 hb2
  go_wp2_with fail
  refine (dec_any B m d bs w2 (HT.out.then_ HB02.out) (HB.out.then_ HB02.out) (by have := HR.out.2; omega)).mono ?_
  rintro e w3 ⟨A3, n3, c3, rfl, hO3, hb3⟩
  have HB3 := Lib.hid hb3
  have HO3 := Lib.hid hO3
  have HB03 := Lib.hid (HB02.out.trans (hb3.mono HB02.out.size))
  obtain ⟨dr, hdr⟩ : ∃ dr, dr = Pl.decE bs := ⟨_, rfl⟩
  have HDR := Lib.hid hdr
  rw [← hdr]
  clear hO3 hb3 hdr
  go_wp2_with fail
  refine (rdec_any B m d bs w3 (HB.out.then_ HB03.out) (by have := HR.out.2; omega)).mono ?_
  rintro e w4 ⟨A4, n4, c4, rfl, hO4, hb4⟩
  have HB4 := Lib.hid hb4
  have HO4 := Lib.hid hO4
  have HB04 := Lib.hid (HB03.out.trans (hb4.mono HB03.out.size))
  rw [← HDR.out]
  have hk1 := (((HO1.out.bys.2.then_ HB2.out).then_ HB3.out).then_ HB4.out).conv
  have hk2 := ((HO2.out.bys.2.then_ HB3.out).then_ HB4.out).conv
  obtain ⟨s, hs⟩ : ∃ s, s = strOfNums (ints (Pl.encB cs)) := ⟨_, rfl⟩
  rw [← hs] at hk1 hk2
  have HSM := Lib.hid (same_any A3 A4 n3 c3 n4 c4 _ _ w4 (HO3.out.crs.2.then_ HB4.out) HO4.out.crs.2)
  rw [decide_eq_true rfl] at HSM
  clear hO4 hb4 hs
  go_wp2_with fail
  refine HSM.out.mono ?_
  rintro e w5 ⟨rfl, hb5⟩
  have HB05 := Lib.hid (HB04.out.trans (hb5.mono HB04.out.size))
  clear hk1 hk2 hb5
  go_wp2_with fail
  refine (whole_any B m d bs w5 (HT.out.then_ HB05.out) (HB.out.then_ HB05.out)).mono ?_
  rintro e w6 ⟨rfl, hb6⟩
  have HB06 := Lib.hid (HB05.out.trans (hb6.mono HB05.out.size))
  obtain ⟨k, hk⟩ : ∃ k, k = Pl.whole bs := ⟨_, rfl⟩
  have HK := Lib.hid hk
  rw [← hk]
  clear hb6 hk
  go_wp2_with fail
  refine (rwhole_any B m d bs w6 (HB.out.then_ HB06.out)).mono ?_
  rintro e w7 ⟨rfl, hb7⟩
  have HB07 := Lib.hid (HB06.out.trans (hb7.mono HB06.out.size))
  rw [← HK.out]
  clear hb7
  go_wp2_with fail
  refine (may_any x w7 HX.out).mono ?_
  rintro e w7' ⟨rfl, rfl⟩
  obtain ⟨mb, hmb⟩ : ∃ mb, mb = decide (Pl.May x) := ⟨_, rfl⟩
  have HMB := Lib.hid hmb
  rw [← hmb]
  clear hmb
  go_wp2_with fail
  refine (rmay_any x w7 HX.out).mono ?_
  rintro e w7' ⟨rfl, rfl⟩
  rw [← HMB.out]
  go_wp2_with fail
  refine (size_any x w7 HX.out).mono ?_
  rintro e w7' ⟨rfl, rfl⟩
  obtain ⟨z, hz⟩ : ∃ z, z = Pl.size x := ⟨_, rfl⟩
  have HZ := Lib.hid hz
  rw [← hz]
  clear hz
  go_wp2_with fail
  refine (rsize_any x w7 HX.out).mono ?_
  rintro e w8 ⟨rfl, hb8⟩
  have HB08 := Lib.hid (HB07.out.trans (hb8.mono HB07.out.size))
  rw [← HZ.out]
  clear hb8
  go_wp2_with fail
  refine (wakes_any w8 (HT.out.then_ HB08.out)).mono ?_
  rintro e w9 ⟨rfl, hb9⟩
  have HB09 := Lib.hid (HB08.out.trans (hb9.mono HB08.out.size))
  clear hb9
  go_wp2_with fail
  go_ret
  exact ⟨rfl, HB09.out⟩
end Go.Proofs.YtillndchojaniaaDoor.utfCalls
