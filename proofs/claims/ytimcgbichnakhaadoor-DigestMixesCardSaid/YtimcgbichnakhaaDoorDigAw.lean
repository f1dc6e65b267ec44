/- Layer 7: the chapter's examples: awake returns true. (Written by tools/dig01.py.) -/
import Derived.Test.YtimcgbichnakhaaDoorDigZ
namespace Go.Proofs.YtimcgbichnakhaaDoor
set_option maxRecDepth 20000
open Go.RowKit
set_option linter.unusedVariables false
set_option linter.unusedSimpArgs false
set_option maxHeartbeats 1000000 in
theorem law7_awake (w : World) (hE : DEnv w) : Calls Tryd.prog 11 #[] w fun e w' => e = .returned (.bool true) ∧ Below w.heap.size w w' := by
  have c1 := fun W (hW : Below w.heap.size w W) => dig_ParseHex ⟨#[48, 48, 48, 48, 48, 48, 48, 48, 48, 48, 48, 48, 48, 48, 102, 102]⟩ (by decide) W (hE.on hW)
  rw [show Dg.phV ((⟨#[48, 48, 48, 48, 48, 48, 48, 48, 48, 48, 48, 48, 48, 48, 102, 102]⟩ : ByteArray).data.toList) = 255 from by decide, show Dg.phE ((⟨#[48, 48, 48, 48, 48, 48, 48, 48, 48, 48, 48, 48, 48, 48, 102, 102]⟩ : ByteArray).data.toList) = 0 from by decide] at c1
  have c2 := fun W (hW : Below w.heap.size w W) => dig_ParseHex ⟨#[102, 102]⟩ (by decide) W (hE.on hW)
  rw [show Dg.phV ((⟨#[102, 102]⟩ : ByteArray).data.toList) = 0 from by decide, show Dg.phE ((⟨#[102, 102]⟩ : ByteArray).data.toList) = 1 from by decide] at c2
  have c3 := fun W (hW : Below w.heap.size w W) => dig_ParseHex ⟨#[48, 48, 48, 48, 48, 48, 48, 48, 48, 48, 48, 48, 48, 48, 70, 70]⟩ (by decide) W (hE.on hW)
  rw [show Dg.phV ((⟨#[48, 48, 48, 48, 48, 48, 48, 48, 48, 48, 48, 48, 48, 48, 70, 70]⟩ : ByteArray).data.toList) = 0 from by decide, show Dg.phE ((⟨#[48, 48, 48, 48, 48, 48, 48, 48, 48, 48, 48, 48, 48, 48, 70, 70]⟩ : ByteArray).data.toList) = 1 from by decide] at c3
  have c4 := fun W (hW : Below w.heap.size w W) => dig_Sum ⟨#[]⟩ (by decide) W
  rw [show Dg.sum ((⟨#[]⟩ : ByteArray).data.toList) = 14695981039346656037 from by decide] at c4
  have c5 := fun W (hW : Below w.heap.size w W) => dig_Hex 14695981039346656037 (by omega) (by omega) W (hE.on hW)
  rw [show Dg.hexS 14695981039346656037 = ⟨#[99, 98, 102, 50, 57, 99, 101, 52, 56, 52, 50, 50, 50, 51, 50, 53]⟩ from by decide +kernel] at c5
  have c6 := fun W (hW : Below w.heap.size w W) => dig_Sum ⟨#[97]⟩ (by decide) W
  rw [show Dg.sum ((⟨#[97]⟩ : ByteArray).data.toList) = 12638187200555641996 from by decide +kernel] at c6
  have c7 := fun W (hW : Below w.heap.size w W) => dig_Mix 11400714819323198485 (by omega) (by omega) W (hE.on hW)
  rw [show Dg.mix 11400714819323198485 = 16294208416658607535 from by decide +kernel] at c7
  have c8 := fun W (hW : Below w.heap.size w W) => dig_Unmix 16294208416658607535 (by omega) (by omega) W (hE.on hW)
  rw [show Dg.unmix 16294208416658607535 = 11400714819323198485 from by decide +kernel] at c8
  have C1 := Lib.hid (c1)
  have C2 := Lib.hid (c2)
  have C3 := Lib.hid (c3)
  have C4 := Lib.hid (c4)
  have C5 := Lib.hid (c5)
  have C6 := Lib.hid (c6)
  have C7 := Lib.hid (c7)
  have C8 := Lib.hid (c8)
  clear c1 c2 c3 c4 c5 c6 c7 c8
  have K0 := Lib.hid (Below.refl w.heap.size w)
  go_enter Tryd.func11, Tryd.ntmps11
  go_wp2_with fail
  refine (C1.out _ K0.out).mono ?_
  rintro e w1 ⟨rfl, B1⟩
  have K1 := Lib.hid (bthn6 K0.out B1)
  clear B1
  go_wp2_with fail
  refine (C2.out _ K1.out).mono ?_
  rintro e w2 ⟨rfl, B2⟩
  have K2 := Lib.hid (bthn6 K1.out B2)
  clear B2
  go_wp2_with fail
  refine (C3.out _ K2.out).mono ?_
  rintro e w3 ⟨rfl, B3⟩
  have K3 := Lib.hid (bthn6 K2.out B3)
  clear B3
  go_wp2_with fail
  refine (C4.out _ K3.out).mono ?_
  rintro e w4 ⟨rfl, B4⟩
  have K4 := Lib.hid (bthn6 K3.out B4)
  clear B4
  go_wp2_with fail
  refine (C4.out _ K4.out).mono ?_
  rintro e w5 ⟨rfl, B5⟩
  have K5 := Lib.hid (bthn6 K4.out B5)
  clear B5
  go_wp2_with fail
  refine (C5.out _ K5.out).mono ?_
  rintro e w6 ⟨rfl, B6⟩
  have K6 := Lib.hid (bthn6 K5.out B6)
  clear B6
  go_wp2_with fail
  refine (C6.out _ K6.out).mono ?_
  rintro e w7 ⟨rfl, B7⟩
  have K7 := Lib.hid (bthn6 K6.out B7)
  clear B7
  go_wp2_with fail
  refine (C7.out _ K7.out).mono ?_
  rintro e w8 ⟨rfl, B8⟩
  have K8 := Lib.hid (bthn6 K7.out B8)
  clear B8
  go_wp2_with fail
  refine (C8.out _ K8.out).mono ?_
  rintro e w9 ⟨rfl, B9⟩
  have K9 := Lib.hid (bthn6 K8.out B9)
  clear B9
  go_wp2_with fail
  go_ret
  exact ⟨rfl, K9.out⟩
end Go.Proofs.YtimcgbichnakhaaDoor
