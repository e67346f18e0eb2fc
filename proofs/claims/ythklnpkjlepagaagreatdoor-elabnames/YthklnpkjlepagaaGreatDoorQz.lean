/- Slots of a frame: each by its own way. -/
import Derived.Test.YthklnpkjlepagaaGreatDoorQa
namespace Go.Proofs.YthklnpkjlepagaaGreatDoor.Ab
open Go.RowKit

/-- An operand. -/
structure EvC where
  g : Fr → AV
def rd0_ (j : Nat) : EvC := match j with
  | 0 => ⟨fun fr => fr.lo.p0.p0⟩
  | 1 => ⟨fun fr => fr.lo.p0.p1⟩
  | 2 => ⟨fun fr => fr.lo.p0.p2⟩
  | 3 => ⟨fun fr => fr.lo.p0.p3⟩
  | 4 => ⟨fun fr => fr.lo.p0.p4⟩
  | 5 => ⟨fun fr => fr.lo.p0.p5⟩
  | 6 => ⟨fun fr => fr.lo.p0.p6⟩
  | 7 => ⟨fun fr => fr.lo.p0.p7⟩
  | 8 => ⟨fun fr => fr.lo.p0.p8⟩
  | 9 => ⟨fun fr => fr.lo.p0.p9⟩
  | 10 => ⟨fun fr => fr.lo.p0.p10⟩
  | 11 => ⟨fun fr => fr.lo.p0.p11⟩
  | 12 => ⟨fun fr => fr.lo.p0.p12⟩
  | 13 => ⟨fun fr => fr.lo.p0.p13⟩
  | 14 => ⟨fun fr => fr.lo.p0.p14⟩
  | _ => ⟨fun fr => fr.lo.p0.p15⟩
def wr0_ (j : Nat) : Wr := match j with
  | 0 => ⟨fun fr x => Fr.casesOn fr fun lo hi => P16.casesOn lo fun a0 a1 a2 a3 a4 a5 a6 a7 a8 a9 a10 a11 a12 a13 a14 a15 => P16.casesOn a0 fun _ b1 b2 b3 b4 b5 b6 b7 b8 b9 b10 b11 b12 b13 b14 b15 => ⟨⟨⟨x, b1, b2, b3, b4, b5, b6, b7, b8, b9, b10, b11, b12, b13, b14, b15⟩, a1, a2, a3, a4, a5, a6, a7, a8, a9, a10, a11, a12, a13, a14, a15⟩, hi⟩⟩
  | 1 => ⟨fun fr x => Fr.casesOn fr fun lo hi => P16.casesOn lo fun a0 a1 a2 a3 a4 a5 a6 a7 a8 a9 a10 a11 a12 a13 a14 a15 => P16.casesOn a0 fun b0 _ b2 b3 b4 b5 b6 b7 b8 b9 b10 b11 b12 b13 b14 b15 => ⟨⟨⟨b0, x, b2, b3, b4, b5, b6, b7, b8, b9, b10, b11, b12, b13, b14, b15⟩, a1, a2, a3, a4, a5, a6, a7, a8, a9, a10, a11, a12, a13, a14, a15⟩, hi⟩⟩
  | 2 => ⟨fun fr x => Fr.casesOn fr fun lo hi => P16.casesOn lo fun a0 a1 a2 a3 a4 a5 a6 a7 a8 a9 a10 a11 a12 a13 a14 a15 => P16.casesOn a0 fun b0 b1 _ b3 b4 b5 b6 b7 b8 b9 b10 b11 b12 b13 b14 b15 => ⟨⟨⟨b0, b1, x, b3, b4, b5, b6, b7, b8, b9, b10, b11, b12, b13, b14, b15⟩, a1, a2, a3, a4, a5, a6, a7, a8, a9, a10, a11, a12, a13, a14, a15⟩, hi⟩⟩
  | 3 => ⟨fun fr x => Fr.casesOn fr fun lo hi => P16.casesOn lo fun a0 a1 a2 a3 a4 a5 a6 a7 a8 a9 a10 a11 a12 a13 a14 a15 => P16.casesOn a0 fun b0 b1 b2 _ b4 b5 b6 b7 b8 b9 b10 b11 b12 b13 b14 b15 => ⟨⟨⟨b0, b1, b2, x, b4, b5, b6, b7, b8, b9, b10, b11, b12, b13, b14, b15⟩, a1, a2, a3, a4, a5, a6, a7, a8, a9, a10, a11, a12, a13, a14, a15⟩, hi⟩⟩
  | 4 => ⟨fun fr x => Fr.casesOn fr fun lo hi => P16.casesOn lo fun a0 a1 a2 a3 a4 a5 a6 a7 a8 a9 a10 a11 a12 a13 a14 a15 => P16.casesOn a0 fun b0 b1 b2 b3 _ b5 b6 b7 b8 b9 b10 b11 b12 b13 b14 b15 => ⟨⟨⟨b0, b1, b2, b3, x, b5, b6, b7, b8, b9, b10, b11, b12, b13, b14, b15⟩, a1, a2, a3, a4, a5, a6, a7, a8, a9, a10, a11, a12, a13, a14, a15⟩, hi⟩⟩
  | 5 => ⟨fun fr x => Fr.casesOn fr fun lo hi => P16.casesOn lo fun a0 a1 a2 a3 a4 a5 a6 a7 a8 a9 a10 a11 a12 a13 a14 a15 => P16.casesOn a0 fun b0 b1 b2 b3 b4 _ b6 b7 b8 b9 b10 b11 b12 b13 b14 b15 => ⟨⟨⟨b0, b1, b2, b3, b4, x, b6, b7, b8, b9, b10, b11, b12, b13, b14, b15⟩, a1, a2, a3, a4, a5, a6, a7, a8, a9, a10, a11, a12, a13, a14, a15⟩, hi⟩⟩
  | 6 => ⟨fun fr x => Fr.casesOn fr fun lo hi => P16.casesOn lo fun a0 a1 a2 a3 a4 a5 a6 a7 a8 a9 a10 a11 a12 a13 a14 a15 => P16.casesOn a0 fun b0 b1 b2 b3 b4 b5 _ b7 b8 b9 b10 b11 b12 b13 b14 b15 => ⟨⟨⟨b0, b1, b2, b3, b4, b5, x, b7, b8, b9, b10, b11, b12, b13, b14, b15⟩, a1, a2, a3, a4, a5, a6, a7, a8, a9, a10, a11, a12, a13, a14, a15⟩, hi⟩⟩
  | 7 => ⟨fun fr x => Fr.casesOn fr fun lo hi => P16.casesOn lo fun a0 a1 a2 a3 a4 a5 a6 a7 a8 a9 a10 a11 a12 a13 a14 a15 => P16.casesOn a0 fun b0 b1 b2 b3 b4 b5 b6 _ b8 b9 b10 b11 b12 b13 b14 b15 => ⟨⟨⟨b0, b1, b2, b3, b4, b5, b6, x, b8, b9, b10, b11, b12, b13, b14, b15⟩, a1, a2, a3, a4, a5, a6, a7, a8, a9, a10, a11, a12, a13, a14, a15⟩, hi⟩⟩
  | 8 => ⟨fun fr x => Fr.casesOn fr fun lo hi => P16.casesOn lo fun a0 a1 a2 a3 a4 a5 a6 a7 a8 a9 a10 a11 a12 a13 a14 a15 => P16.casesOn a0 fun b0 b1 b2 b3 b4 b5 b6 b7 _ b9 b10 b11 b12 b13 b14 b15 => ⟨⟨⟨b0, b1, b2, b3, b4, b5, b6, b7, x, b9, b10, b11, b12, b13, b14, b15⟩, a1, a2, a3, a4, a5, a6, a7, a8, a9, a10, a11, a12, a13, a14, a15⟩, hi⟩⟩
  | 9 => ⟨fun fr x => Fr.casesOn fr fun lo hi => P16.casesOn lo fun a0 a1 a2 a3 a4 a5 a6 a7 a8 a9 a10 a11 a12 a13 a14 a15 => P16.casesOn a0 fun b0 b1 b2 b3 b4 b5 b6 b7 b8 _ b10 b11 b12 b13 b14 b15 => ⟨⟨⟨b0, b1, b2, b3, b4, b5, b6, b7, b8, x, b10, b11, b12, b13, b14, b15⟩, a1, a2, a3, a4, a5, a6, a7, a8, a9, a10, a11, a12, a13, a14, a15⟩, hi⟩⟩
  | 10 => ⟨fun fr x => Fr.casesOn fr fun lo hi => P16.casesOn lo fun a0 a1 a2 a3 a4 a5 a6 a7 a8 a9 a10 a11 a12 a13 a14 a15 => P16.casesOn a0 fun b0 b1 b2 b3 b4 b5 b6 b7 b8 b9 _ b11 b12 b13 b14 b15 => ⟨⟨⟨b0, b1, b2, b3, b4, b5, b6, b7, b8, b9, x, b11, b12, b13, b14, b15⟩, a1, a2, a3, a4, a5, a6, a7, a8, a9, a10, a11, a12, a13, a14, a15⟩, hi⟩⟩
  | 11 => ⟨fun fr x => Fr.casesOn fr fun lo hi => P16.casesOn lo fun a0 a1 a2 a3 a4 a5 a6 a7 a8 a9 a10 a11 a12 a13 a14 a15 => P16.casesOn a0 fun b0 b1 b2 b3 b4 b5 b6 b7 b8 b9 b10 _ b12 b13 b14 b15 => ⟨⟨⟨b0, b1, b2, b3, b4, b5, b6, b7, b8, b9, b10, x, b12, b13, b14, b15⟩, a1, a2, a3, a4, a5, a6, a7, a8, a9, a10, a11, a12, a13, a14, a15⟩, hi⟩⟩
  | 12 => ⟨fun fr x => Fr.casesOn fr fun lo hi => P16.casesOn lo fun a0 a1 a2 a3 a4 a5 a6 a7 a8 a9 a10 a11 a12 a13 a14 a15 => P16.casesOn a0 fun b0 b1 b2 b3 b4 b5 b6 b7 b8 b9 b10 b11 _ b13 b14 b15 => ⟨⟨⟨b0, b1, b2, b3, b4, b5, b6, b7, b8, b9, b10, b11, x, b13, b14, b15⟩, a1, a2, a3, a4, a5, a6, a7, a8, a9, a10, a11, a12, a13, a14, a15⟩, hi⟩⟩
  | 13 => ⟨fun fr x => Fr.casesOn fr fun lo hi => P16.casesOn lo fun a0 a1 a2 a3 a4 a5 a6 a7 a8 a9 a10 a11 a12 a13 a14 a15 => P16.casesOn a0 fun b0 b1 b2 b3 b4 b5 b6 b7 b8 b9 b10 b11 b12 _ b14 b15 => ⟨⟨⟨b0, b1, b2, b3, b4, b5, b6, b7, b8, b9, b10, b11, b12, x, b14, b15⟩, a1, a2, a3, a4, a5, a6, a7, a8, a9, a10, a11, a12, a13, a14, a15⟩, hi⟩⟩
  | 14 => ⟨fun fr x => Fr.casesOn fr fun lo hi => P16.casesOn lo fun a0 a1 a2 a3 a4 a5 a6 a7 a8 a9 a10 a11 a12 a13 a14 a15 => P16.casesOn a0 fun b0 b1 b2 b3 b4 b5 b6 b7 b8 b9 b10 b11 b12 b13 _ b15 => ⟨⟨⟨b0, b1, b2, b3, b4, b5, b6, b7, b8, b9, b10, b11, b12, b13, x, b15⟩, a1, a2, a3, a4, a5, a6, a7, a8, a9, a10, a11, a12, a13, a14, a15⟩, hi⟩⟩
  | _ => ⟨fun fr x => Fr.casesOn fr fun lo hi => P16.casesOn lo fun a0 a1 a2 a3 a4 a5 a6 a7 a8 a9 a10 a11 a12 a13 a14 a15 => P16.casesOn a0 fun b0 b1 b2 b3 b4 b5 b6 b7 b8 b9 b10 b11 b12 b13 b14 _ => ⟨⟨⟨b0, b1, b2, b3, b4, b5, b6, b7, b8, b9, b10, b11, b12, b13, b14, x⟩, a1, a2, a3, a4, a5, a6, a7, a8, a9, a10, a11, a12, a13, a14, a15⟩, hi⟩⟩
def rd1_ (j : Nat) : EvC := match j with
  | 0 => ⟨fun fr => fr.lo.p1.p0⟩
  | 1 => ⟨fun fr => fr.lo.p1.p1⟩
  | 2 => ⟨fun fr => fr.lo.p1.p2⟩
  | 3 => ⟨fun fr => fr.lo.p1.p3⟩
  | 4 => ⟨fun fr => fr.lo.p1.p4⟩
  | 5 => ⟨fun fr => fr.lo.p1.p5⟩
  | 6 => ⟨fun fr => fr.lo.p1.p6⟩
  | 7 => ⟨fun fr => fr.lo.p1.p7⟩
  | 8 => ⟨fun fr => fr.lo.p1.p8⟩
  | 9 => ⟨fun fr => fr.lo.p1.p9⟩
  | 10 => ⟨fun fr => fr.lo.p1.p10⟩
  | 11 => ⟨fun fr => fr.lo.p1.p11⟩
  | 12 => ⟨fun fr => fr.lo.p1.p12⟩
  | 13 => ⟨fun fr => fr.lo.p1.p13⟩
  | 14 => ⟨fun fr => fr.lo.p1.p14⟩
  | _ => ⟨fun fr => fr.lo.p1.p15⟩
def wr1_ (j : Nat) : Wr := match j with
  | 0 => ⟨fun fr x => Fr.casesOn fr fun lo hi => P16.casesOn lo fun a0 a1 a2 a3 a4 a5 a6 a7 a8 a9 a10 a11 a12 a13 a14 a15 => P16.casesOn a1 fun _ b1 b2 b3 b4 b5 b6 b7 b8 b9 b10 b11 b12 b13 b14 b15 => ⟨⟨a0, ⟨x, b1, b2, b3, b4, b5, b6, b7, b8, b9, b10, b11, b12, b13, b14, b15⟩, a2, a3, a4, a5, a6, a7, a8, a9, a10, a11, a12, a13, a14, a15⟩, hi⟩⟩
  | 1 => ⟨fun fr x => Fr.casesOn fr fun lo hi => P16.casesOn lo fun a0 a1 a2 a3 a4 a5 a6 a7 a8 a9 a10 a11 a12 a13 a14 a15 => P16.casesOn a1 fun b0 _ b2 b3 b4 b5 b6 b7 b8 b9 b10 b11 b12 b13 b14 b15 => ⟨⟨a0, ⟨b0, x, b2, b3, b4, b5, b6, b7, b8, b9, b10, b11, b12, b13, b14, b15⟩, a2, a3, a4, a5, a6, a7, a8, a9, a10, a11, a12, a13, a14, a15⟩, hi⟩⟩
  | 2 => ⟨fun fr x => Fr.casesOn fr fun lo hi => P16.casesOn lo fun a0 a1 a2 a3 a4 a5 a6 a7 a8 a9 a10 a11 a12 a13 a14 a15 => P16.casesOn a1 fun b0 b1 _ b3 b4 b5 b6 b7 b8 b9 b10 b11 b12 b13 b14 b15 => ⟨⟨a0, ⟨b0, b1, x, b3, b4, b5, b6, b7, b8, b9, b10, b11, b12, b13, b14, b15⟩, a2, a3, a4, a5, a6, a7, a8, a9, a10, a11, a12, a13, a14, a15⟩, hi⟩⟩
  | 3 => ⟨fun fr x => Fr.casesOn fr fun lo hi => P16.casesOn lo fun a0 a1 a2 a3 a4 a5 a6 a7 a8 a9 a10 a11 a12 a13 a14 a15 => P16.casesOn a1 fun b0 b1 b2 _ b4 b5 b6 b7 b8 b9 b10 b11 b12 b13 b14 b15 => ⟨⟨a0, ⟨b0, b1, b2, x, b4, b5, b6, b7, b8, b9, b10, b11, b12, b13, b14, b15⟩, a2, a3, a4, a5, a6, a7, a8, a9, a10, a11, a12, a13, a14, a15⟩, hi⟩⟩
  | 4 => ⟨fun fr x => Fr.casesOn fr fun lo hi => P16.casesOn lo fun a0 a1 a2 a3 a4 a5 a6 a7 a8 a9 a10 a11 a12 a13 a14 a15 => P16.casesOn a1 fun b0 b1 b2 b3 _ b5 b6 b7 b8 b9 b10 b11 b12 b13 b14 b15 => ⟨⟨a0, ⟨b0, b1, b2, b3, x, b5, b6, b7, b8, b9, b10, b11, b12, b13, b14, b15⟩, a2, a3, a4, a5, a6, a7, a8, a9, a10, a11, a12, a13, a14, a15⟩, hi⟩⟩
  | 5 => ⟨fun fr x => Fr.casesOn fr fun lo hi => P16.casesOn lo fun a0 a1 a2 a3 a4 a5 a6 a7 a8 a9 a10 a11 a12 a13 a14 a15 => P16.casesOn a1 fun b0 b1 b2 b3 b4 _ b6 b7 b8 b9 b10 b11 b12 b13 b14 b15 => ⟨⟨a0, ⟨b0, b1, b2, b3, b4, x, b6, b7, b8, b9, b10, b11, b12, b13, b14, b15⟩, a2, a3, a4, a5, a6, a7, a8, a9, a10, a11, a12, a13, a14, a15⟩, hi⟩⟩
  | 6 => ⟨fun fr x => Fr.casesOn fr fun lo hi => P16.casesOn lo fun a0 a1 a2 a3 a4 a5 a6 a7 a8 a9 a10 a11 a12 a13 a14 a15 => P16.casesOn a1 fun b0 b1 b2 b3 b4 b5 _ b7 b8 b9 b10 b11 b12 b13 b14 b15 => ⟨⟨a0, ⟨b0, b1, b2, b3, b4, b5, x, b7, b8, b9, b10, b11, b12, b13, b14, b15⟩, a2, a3, a4, a5, a6, a7, a8, a9, a10, a11, a12, a13, a14, a15⟩, hi⟩⟩
  | 7 => ⟨fun fr x => Fr.casesOn fr fun lo hi => P16.casesOn lo fun a0 a1 a2 a3 a4 a5 a6 a7 a8 a9 a10 a11 a12 a13 a14 a15 => P16.casesOn a1 fun b0 b1 b2 b3 b4 b5 b6 _ b8 b9 b10 b11 b12 b13 b14 b15 => ⟨⟨a0, ⟨b0, b1, b2, b3, b4, b5, b6, x, b8, b9, b10, b11, b12, b13, b14, b15⟩, a2, a3, a4, a5, a6, a7, a8, a9, a10, a11, a12, a13, a14, a15⟩, hi⟩⟩
  | 8 => ⟨fun fr x => Fr.casesOn fr fun lo hi => P16.casesOn lo fun a0 a1 a2 a3 a4 a5 a6 a7 a8 a9 a10 a11 a12 a13 a14 a15 => P16.casesOn a1 fun b0 b1 b2 b3 b4 b5 b6 b7 _ b9 b10 b11 b12 b13 b14 b15 => ⟨⟨a0, ⟨b0, b1, b2, b3, b4, b5, b6, b7, x, b9, b10, b11, b12, b13, b14, b15⟩, a2, a3, a4, a5, a6, a7, a8, a9, a10, a11, a12, a13, a14, a15⟩, hi⟩⟩
  | 9 => ⟨fun fr x => Fr.casesOn fr fun lo hi => P16.casesOn lo fun a0 a1 a2 a3 a4 a5 a6 a7 a8 a9 a10 a11 a12 a13 a14 a15 => P16.casesOn a1 fun b0 b1 b2 b3 b4 b5 b6 b7 b8 _ b10 b11 b12 b13 b14 b15 => ⟨⟨a0, ⟨b0, b1, b2, b3, b4, b5, b6, b7, b8, x, b10, b11, b12, b13, b14, b15⟩, a2, a3, a4, a5, a6, a7, a8, a9, a10, a11, a12, a13, a14, a15⟩, hi⟩⟩
  | 10 => ⟨fun fr x => Fr.casesOn fr fun lo hi => P16.casesOn lo fun a0 a1 a2 a3 a4 a5 a6 a7 a8 a9 a10 a11 a12 a13 a14 a15 => P16.casesOn a1 fun b0 b1 b2 b3 b4 b5 b6 b7 b8 b9 _ b11 b12 b13 b14 b15 => ⟨⟨a0, ⟨b0, b1, b2, b3, b4, b5, b6, b7, b8, b9, x, b11, b12, b13, b14, b15⟩, a2, a3, a4, a5, a6, a7, a8, a9, a10, a11, a12, a13, a14, a15⟩, hi⟩⟩
  | 11 => ⟨fun fr x => Fr.casesOn fr fun lo hi => P16.casesOn lo fun a0 a1 a2 a3 a4 a5 a6 a7 a8 a9 a10 a11 a12 a13 a14 a15 => P16.casesOn a1 fun b0 b1 b2 b3 b4 b5 b6 b7 b8 b9 b10 _ b12 b13 b14 b15 => ⟨⟨a0, ⟨b0, b1, b2, b3, b4, b5, b6, b7, b8, b9, b10, x, b12, b13, b14, b15⟩, a2, a3, a4, a5, a6, a7, a8, a9, a10, a11, a12, a13, a14, a15⟩, hi⟩⟩
  | 12 => ⟨fun fr x => Fr.casesOn fr fun lo hi => P16.casesOn lo fun a0 a1 a2 a3 a4 a5 a6 a7 a8 a9 a10 a11 a12 a13 a14 a15 => P16.casesOn a1 fun b0 b1 b2 b3 b4 b5 b6 b7 b8 b9 b10 b11 _ b13 b14 b15 => ⟨⟨a0, ⟨b0, b1, b2, b3, b4, b5, b6, b7, b8, b9, b10, b11, x, b13, b14, b15⟩, a2, a3, a4, a5, a6, a7, a8, a9, a10, a11, a12, a13, a14, a15⟩, hi⟩⟩
  | 13 => ⟨fun fr x => Fr.casesOn fr fun lo hi => P16.casesOn lo fun a0 a1 a2 a3 a4 a5 a6 a7 a8 a9 a10 a11 a12 a13 a14 a15 => P16.casesOn a1 fun b0 b1 b2 b3 b4 b5 b6 b7 b8 b9 b10 b11 b12 _ b14 b15 => ⟨⟨a0, ⟨b0, b1, b2, b3, b4, b5, b6, b7, b8, b9, b10, b11, b12, x, b14, b15⟩, a2, a3, a4, a5, a6, a7, a8, a9, a10, a11, a12, a13, a14, a15⟩, hi⟩⟩
  | 14 => ⟨fun fr x => Fr.casesOn fr fun lo hi => P16.casesOn lo fun a0 a1 a2 a3 a4 a5 a6 a7 a8 a9 a10 a11 a12 a13 a14 a15 => P16.casesOn a1 fun b0 b1 b2 b3 b4 b5 b6 b7 b8 b9 b10 b11 b12 b13 _ b15 => ⟨⟨a0, ⟨b0, b1, b2, b3, b4, b5, b6, b7, b8, b9, b10, b11, b12, b13, x, b15⟩, a2, a3, a4, a5, a6, a7, a8, a9, a10, a11, a12, a13, a14, a15⟩, hi⟩⟩
  | _ => ⟨fun fr x => Fr.casesOn fr fun lo hi => P16.casesOn lo fun a0 a1 a2 a3 a4 a5 a6 a7 a8 a9 a10 a11 a12 a13 a14 a15 => P16.casesOn a1 fun b0 b1 b2 b3 b4 b5 b6 b7 b8 b9 b10 b11 b12 b13 b14 _ => ⟨⟨a0, ⟨b0, b1, b2, b3, b4, b5, b6, b7, b8, b9, b10, b11, b12, b13, b14, x⟩, a2, a3, a4, a5, a6, a7, a8, a9, a10, a11, a12, a13, a14, a15⟩, hi⟩⟩
def rd2_ (j : Nat) : EvC := match j with
  | 0 => ⟨fun fr => fr.lo.p2.p0⟩
  | 1 => ⟨fun fr => fr.lo.p2.p1⟩
  | 2 => ⟨fun fr => fr.lo.p2.p2⟩
  | 3 => ⟨fun fr => fr.lo.p2.p3⟩
  | 4 => ⟨fun fr => fr.lo.p2.p4⟩
  | 5 => ⟨fun fr => fr.lo.p2.p5⟩
  | 6 => ⟨fun fr => fr.lo.p2.p6⟩
  | 7 => ⟨fun fr => fr.lo.p2.p7⟩
  | 8 => ⟨fun fr => fr.lo.p2.p8⟩
  | 9 => ⟨fun fr => fr.lo.p2.p9⟩
  | 10 => ⟨fun fr => fr.lo.p2.p10⟩
  | 11 => ⟨fun fr => fr.lo.p2.p11⟩
  | 12 => ⟨fun fr => fr.lo.p2.p12⟩
  | 13 => ⟨fun fr => fr.lo.p2.p13⟩
  | 14 => ⟨fun fr => fr.lo.p2.p14⟩
  | _ => ⟨fun fr => fr.lo.p2.p15⟩
def wr2_ (j : Nat) : Wr := match j with
  | 0 => ⟨fun fr x => Fr.casesOn fr fun lo hi => P16.casesOn lo fun a0 a1 a2 a3 a4 a5 a6 a7 a8 a9 a10 a11 a12 a13 a14 a15 => P16.casesOn a2 fun _ b1 b2 b3 b4 b5 b6 b7 b8 b9 b10 b11 b12 b13 b14 b15 => ⟨⟨a0, a1, ⟨x, b1, b2, b3, b4, b5, b6, b7, b8, b9, b10, b11, b12, b13, b14, b15⟩, a3, a4, a5, a6, a7, a8, a9, a10, a11, a12, a13, a14, a15⟩, hi⟩⟩
  | 1 => ⟨fun fr x => Fr.casesOn fr fun lo hi => P16.casesOn lo fun a0 a1 a2 a3 a4 a5 a6 a7 a8 a9 a10 a11 a12 a13 a14 a15 => P16.casesOn a2 fun b0 _ b2 b3 b4 b5 b6 b7 b8 b9 b10 b11 b12 b13 b14 b15 => ⟨⟨a0, a1, ⟨b0, x, b2, b3, b4, b5, b6, b7, b8, b9, b10, b11, b12, b13, b14, b15⟩, a3, a4, a5, a6, a7, a8, a9, a10, a11, a12, a13, a14, a15⟩, hi⟩⟩
  | 2 => ⟨fun fr x => Fr.casesOn fr fun lo hi => P16.casesOn lo fun a0 a1 a2 a3 a4 a5 a6 a7 a8 a9 a10 a11 a12 a13 a14 a15 => P16.casesOn a2 fun b0 b1 _ b3 b4 b5 b6 b7 b8 b9 b10 b11 b12 b13 b14 b15 => ⟨⟨a0, a1, ⟨b0, b1, x, b3, b4, b5, b6, b7, b8, b9, b10, b11, b12, b13, b14, b15⟩, a3, a4, a5, a6, a7, a8, a9, a10, a11, a12, a13, a14, a15⟩, hi⟩⟩
  | 3 => ⟨fun fr x => Fr.casesOn fr fun lo hi => P16.casesOn lo fun a0 a1 a2 a3 a4 a5 a6 a7 a8 a9 a10 a11 a12 a13 a14 a15 => P16.casesOn a2 fun b0 b1 b2 _ b4 b5 b6 b7 b8 b9 b10 b11 b12 b13 b14 b15 => ⟨⟨a0, a1, ⟨b0, b1, b2, x, b4, b5, b6, b7, b8, b9, b10, b11, b12, b13, b14, b15⟩, a3, a4, a5, a6, a7, a8, a9, a10, a11, a12, a13, a14, a15⟩, hi⟩⟩
  | 4 => ⟨fun fr x => Fr.casesOn fr fun lo hi => P16.casesOn lo fun a0 a1 a2 a3 a4 a5 a6 a7 a8 a9 a10 a11 a12 a13 a14 a15 => P16.casesOn a2 fun b0 b1 b2 b3 _ b5 b6 b7 b8 b9 b10 b11 b12 b13 b14 b15 => ⟨⟨a0, a1, ⟨b0, b1, b2, b3, x, b5, b6, b7, b8, b9, b10, b11, b12, b13, b14, b15⟩, a3, a4, a5, a6, a7, a8, a9, a10, a11, a12, a13, a14, a15⟩, hi⟩⟩
  | 5 => ⟨fun fr x => Fr.casesOn fr fun lo hi => P16.casesOn lo fun a0 a1 a2 a3 a4 a5 a6 a7 a8 a9 a10 a11 a12 a13 a14 a15 => P16.casesOn a2 fun b0 b1 b2 b3 b4 _ b6 b7 b8 b9 b10 b11 b12 b13 b14 b15 => ⟨⟨a0, a1, ⟨b0, b1, b2, b3, b4, x, b6, b7, b8, b9, b10, b11, b12, b13, b14, b15⟩, a3, a4, a5, a6, a7, a8, a9, a10, a11, a12, a13, a14, a15⟩, hi⟩⟩
  | 6 => ⟨fun fr x => Fr.casesOn fr fun lo hi => P16.casesOn lo fun a0 a1 a2 a3 a4 a5 a6 a7 a8 a9 a10 a11 a12 a13 a14 a15 => P16.casesOn a2 fun b0 b1 b2 b3 b4 b5 _ b7 b8 b9 b10 b11 b12 b13 b14 b15 => ⟨⟨a0, a1, ⟨b0, b1, b2, b3, b4, b5, x, b7, b8, b9, b10, b11, b12, b13, b14, b15⟩, a3, a4, a5, a6, a7, a8, a9, a10, a11, a12, a13, a14, a15⟩, hi⟩⟩
  | 7 => ⟨fun fr x => Fr.casesOn fr fun lo hi => P16.casesOn lo fun a0 a1 a2 a3 a4 a5 a6 a7 a8 a9 a10 a11 a12 a13 a14 a15 => P16.casesOn a2 fun b0 b1 b2 b3 b4 b5 b6 _ b8 b9 b10 b11 b12 b13 b14 b15 => ⟨⟨a0, a1, ⟨b0, b1, b2, b3, b4, b5, b6, x, b8, b9, b10, b11, b12, b13, b14, b15⟩, a3, a4, a5, a6, a7, a8, a9, a10, a11, a12, a13, a14, a15⟩, hi⟩⟩
  | 8 => ⟨fun fr x => Fr.casesOn fr fun lo hi => P16.casesOn lo fun a0 a1 a2 a3 a4 a5 a6 a7 a8 a9 a10 a11 a12 a13 a14 a15 => P16.casesOn a2 fun b0 b1 b2 b3 b4 b5 b6 b7 _ b9 b10 b11 b12 b13 b14 b15 => ⟨⟨a0, a1, ⟨b0, b1, b2, b3, b4, b5, b6, b7, x, b9, b10, b11, b12, b13, b14, b15⟩, a3, a4, a5, a6, a7, a8, a9, a10, a11, a12, a13, a14, a15⟩, hi⟩⟩
  | 9 => ⟨fun fr x => Fr.casesOn fr fun lo hi => P16.casesOn lo fun a0 a1 a2 a3 a4 a5 a6 a7 a8 a9 a10 a11 a12 a13 a14 a15 => P16.casesOn a2 fun b0 b1 b2 b3 b4 b5 b6 b7 b8 _ b10 b11 b12 b13 b14 b15 => ⟨⟨a0, a1, ⟨b0, b1, b2, b3, b4, b5, b6, b7, b8, x, b10, b11, b12, b13, b14, b15⟩, a3, a4, a5, a6, a7, a8, a9, a10, a11, a12, a13, a14, a15⟩, hi⟩⟩
  | 10 => ⟨fun fr x => Fr.casesOn fr fun lo hi => P16.casesOn lo fun a0 a1 a2 a3 a4 a5 a6 a7 a8 a9 a10 a11 a12 a13 a14 a15 => P16.casesOn a2 fun b0 b1 b2 b3 b4 b5 b6 b7 b8 b9 _ b11 b12 b13 b14 b15 => ⟨⟨a0, a1, ⟨b0, b1, b2, b3, b4, b5, b6, b7, b8, b9, x, b11, b12, b13, b14, b15⟩, a3, a4, a5, a6, a7, a8, a9, a10, a11, a12, a13, a14, a15⟩, hi⟩⟩
  | 11 => ⟨fun fr x => Fr.casesOn fr fun lo hi => P16.casesOn lo fun a0 a1 a2 a3 a4 a5 a6 a7 a8 a9 a10 a11 a12 a13 a14 a15 => P16.casesOn a2 fun b0 b1 b2 b3 b4 b5 b6 b7 b8 b9 b10 _ b12 b13 b14 b15 => ⟨⟨a0, a1, ⟨b0, b1, b2, b3, b4, b5, b6, b7, b8, b9, b10, x, b12, b13, b14, b15⟩, a3, a4, a5, a6, a7, a8, a9, a10, a11, a12, a13, a14, a15⟩, hi⟩⟩
  | 12 => ⟨fun fr x => Fr.casesOn fr fun lo hi => P16.casesOn lo fun a0 a1 a2 a3 a4 a5 a6 a7 a8 a9 a10 a11 a12 a13 a14 a15 => P16.casesOn a2 fun b0 b1 b2 b3 b4 b5 b6 b7 b8 b9 b10 b11 _ b13 b14 b15 => ⟨⟨a0, a1, ⟨b0, b1, b2, b3, b4, b5, b6, b7, b8, b9, b10, b11, x, b13, b14, b15⟩, a3, a4, a5, a6, a7, a8, a9, a10, a11, a12, a13, a14, a15⟩, hi⟩⟩
  | 13 => ⟨fun fr x => Fr.casesOn fr fun lo hi => P16.casesOn lo fun a0 a1 a2 a3 a4 a5 a6 a7 a8 a9 a10 a11 a12 a13 a14 a15 => P16.casesOn a2 fun b0 b1 b2 b3 b4 b5 b6 b7 b8 b9 b10 b11 b12 _ b14 b15 => ⟨⟨a0, a1, ⟨b0, b1, b2, b3, b4, b5, b6, b7, b8, b9, b10, b11, b12, x, b14, b15⟩, a3, a4, a5, a6, a7, a8, a9, a10, a11, a12, a13, a14, a15⟩, hi⟩⟩
  | 14 => ⟨fun fr x => Fr.casesOn fr fun lo hi => P16.casesOn lo fun a0 a1 a2 a3 a4 a5 a6 a7 a8 a9 a10 a11 a12 a13 a14 a15 => P16.casesOn a2 fun b0 b1 b2 b3 b4 b5 b6 b7 b8 b9 b10 b11 b12 b13 _ b15 => ⟨⟨a0, a1, ⟨b0, b1, b2, b3, b4, b5, b6, b7, b8, b9, b10, b11, b12, b13, x, b15⟩, a3, a4, a5, a6, a7, a8, a9, a10, a11, a12, a13, a14, a15⟩, hi⟩⟩
  | _ => ⟨fun fr x => Fr.casesOn fr fun lo hi => P16.casesOn lo fun a0 a1 a2 a3 a4 a5 a6 a7 a8 a9 a10 a11 a12 a13 a14 a15 => P16.casesOn a2 fun b0 b1 b2 b3 b4 b5 b6 b7 b8 b9 b10 b11 b12 b13 b14 _ => ⟨⟨a0, a1, ⟨b0, b1, b2, b3, b4, b5, b6, b7, b8, b9, b10, b11, b12, b13, b14, x⟩, a3, a4, a5, a6, a7, a8, a9, a10, a11, a12, a13, a14, a15⟩, hi⟩⟩
def rd3_ (j : Nat) : EvC := match j with
  | 0 => ⟨fun fr => fr.lo.p3.p0⟩
  | 1 => ⟨fun fr => fr.lo.p3.p1⟩
  | 2 => ⟨fun fr => fr.lo.p3.p2⟩
  | 3 => ⟨fun fr => fr.lo.p3.p3⟩
  | 4 => ⟨fun fr => fr.lo.p3.p4⟩
  | 5 => ⟨fun fr => fr.lo.p3.p5⟩
  | 6 => ⟨fun fr => fr.lo.p3.p6⟩
  | 7 => ⟨fun fr => fr.lo.p3.p7⟩
  | 8 => ⟨fun fr => fr.lo.p3.p8⟩
  | 9 => ⟨fun fr => fr.lo.p3.p9⟩
  | 10 => ⟨fun fr => fr.lo.p3.p10⟩
  | 11 => ⟨fun fr => fr.lo.p3.p11⟩
  | 12 => ⟨fun fr => fr.lo.p3.p12⟩
  | 13 => ⟨fun fr => fr.lo.p3.p13⟩
  | 14 => ⟨fun fr => fr.lo.p3.p14⟩
  | _ => ⟨fun fr => fr.lo.p3.p15⟩
def wr3_ (j : Nat) : Wr := match j with
  | 0 => ⟨fun fr x => Fr.casesOn fr fun lo hi => P16.casesOn lo fun a0 a1 a2 a3 a4 a5 a6 a7 a8 a9 a10 a11 a12 a13 a14 a15 => P16.casesOn a3 fun _ b1 b2 b3 b4 b5 b6 b7 b8 b9 b10 b11 b12 b13 b14 b15 => ⟨⟨a0, a1, a2, ⟨x, b1, b2, b3, b4, b5, b6, b7, b8, b9, b10, b11, b12, b13, b14, b15⟩, a4, a5, a6, a7, a8, a9, a10, a11, a12, a13, a14, a15⟩, hi⟩⟩
  | 1 => ⟨fun fr x => Fr.casesOn fr fun lo hi => P16.casesOn lo fun a0 a1 a2 a3 a4 a5 a6 a7 a8 a9 a10 a11 a12 a13 a14 a15 => P16.casesOn a3 fun b0 _ b2 b3 b4 b5 b6 b7 b8 b9 b10 b11 b12 b13 b14 b15 => ⟨⟨a0, a1, a2, ⟨b0, x, b2, b3, b4, b5, b6, b7, b8, b9, b10, b11, b12, b13, b14, b15⟩, a4, a5, a6, a7, a8, a9, a10, a11, a12, a13, a14, a15⟩, hi⟩⟩
  | 2 => ⟨fun fr x => Fr.casesOn fr fun lo hi => P16.casesOn lo fun a0 a1 a2 a3 a4 a5 a6 a7 a8 a9 a10 a11 a12 a13 a14 a15 => P16.casesOn a3 fun b0 b1 _ b3 b4 b5 b6 b7 b8 b9 b10 b11 b12 b13 b14 b15 => ⟨⟨a0, a1, a2, ⟨b0, b1, x, b3, b4, b5, b6, b7, b8, b9, b10, b11, b12, b13, b14, b15⟩, a4, a5, a6, a7, a8, a9, a10, a11, a12, a13, a14, a15⟩, hi⟩⟩
  | 3 => ⟨fun fr x => Fr.casesOn fr fun lo hi => P16.casesOn lo fun a0 a1 a2 a3 a4 a5 a6 a7 a8 a9 a10 a11 a12 a13 a14 a15 => P16.casesOn a3 fun b0 b1 b2 _ b4 b5 b6 b7 b8 b9 b10 b11 b12 b13 b14 b15 => ⟨⟨a0, a1, a2, ⟨b0, b1, b2, x, b4, b5, b6, b7, b8, b9, b10, b11, b12, b13, b14, b15⟩, a4, a5, a6, a7, a8, a9, a10, a11, a12, a13, a14, a15⟩, hi⟩⟩
  | 4 => ⟨fun fr x => Fr.casesOn fr fun lo hi => P16.casesOn lo fun a0 a1 a2 a3 a4 a5 a6 a7 a8 a9 a10 a11 a12 a13 a14 a15 => P16.casesOn a3 fun b0 b1 b2 b3 _ b5 b6 b7 b8 b9 b10 b11 b12 b13 b14 b15 => ⟨⟨a0, a1, a2, ⟨b0, b1, b2, b3, x, b5, b6, b7, b8, b9, b10, b11, b12, b13, b14, b15⟩, a4, a5, a6, a7, a8, a9, a10, a11, a12, a13, a14, a15⟩, hi⟩⟩
  | 5 => ⟨fun fr x => Fr.casesOn fr fun lo hi => P16.casesOn lo fun a0 a1 a2 a3 a4 a5 a6 a7 a8 a9 a10 a11 a12 a13 a14 a15 => P16.casesOn a3 fun b0 b1 b2 b3 b4 _ b6 b7 b8 b9 b10 b11 b12 b13 b14 b15 => ⟨⟨a0, a1, a2, ⟨b0, b1, b2, b3, b4, x, b6, b7, b8, b9, b10, b11, b12, b13, b14, b15⟩, a4, a5, a6, a7, a8, a9, a10, a11, a12, a13, a14, a15⟩, hi⟩⟩
  | 6 => ⟨fun fr x => Fr.casesOn fr fun lo hi => P16.casesOn lo fun a0 a1 a2 a3 a4 a5 a6 a7 a8 a9 a10 a11 a12 a13 a14 a15 => P16.casesOn a3 fun b0 b1 b2 b3 b4 b5 _ b7 b8 b9 b10 b11 b12 b13 b14 b15 => ⟨⟨a0, a1, a2, ⟨b0, b1, b2, b3, b4, b5, x, b7, b8, b9, b10, b11, b12, b13, b14, b15⟩, a4, a5, a6, a7, a8, a9, a10, a11, a12, a13, a14, a15⟩, hi⟩⟩
  | 7 => ⟨fun fr x => Fr.casesOn fr fun lo hi => P16.casesOn lo fun a0 a1 a2 a3 a4 a5 a6 a7 a8 a9 a10 a11 a12 a13 a14 a15 => P16.casesOn a3 fun b0 b1 b2 b3 b4 b5 b6 _ b8 b9 b10 b11 b12 b13 b14 b15 => ⟨⟨a0, a1, a2, ⟨b0, b1, b2, b3, b4, b5, b6, x, b8, b9, b10, b11, b12, b13, b14, b15⟩, a4, a5, a6, a7, a8, a9, a10, a11, a12, a13, a14, a15⟩, hi⟩⟩
  | 8 => ⟨fun fr x => Fr.casesOn fr fun lo hi => P16.casesOn lo fun a0 a1 a2 a3 a4 a5 a6 a7 a8 a9 a10 a11 a12 a13 a14 a15 => P16.casesOn a3 fun b0 b1 b2 b3 b4 b5 b6 b7 _ b9 b10 b11 b12 b13 b14 b15 => ⟨⟨a0, a1, a2, ⟨b0, b1, b2, b3, b4, b5, b6, b7, x, b9, b10, b11, b12, b13, b14, b15⟩, a4, a5, a6, a7, a8, a9, a10, a11, a12, a13, a14, a15⟩, hi⟩⟩
  | 9 => ⟨fun fr x => Fr.casesOn fr fun lo hi => P16.casesOn lo fun a0 a1 a2 a3 a4 a5 a6 a7 a8 a9 a10 a11 a12 a13 a14 a15 => P16.casesOn a3 fun b0 b1 b2 b3 b4 b5 b6 b7 b8 _ b10 b11 b12 b13 b14 b15 => ⟨⟨a0, a1, a2, ⟨b0, b1, b2, b3, b4, b5, b6, b7, b8, x, b10, b11, b12, b13, b14, b15⟩, a4, a5, a6, a7, a8, a9, a10, a11, a12, a13, a14, a15⟩, hi⟩⟩
  | 10 => ⟨fun fr x => Fr.casesOn fr fun lo hi => P16.casesOn lo fun a0 a1 a2 a3 a4 a5 a6 a7 a8 a9 a10 a11 a12 a13 a14 a15 => P16.casesOn a3 fun b0 b1 b2 b3 b4 b5 b6 b7 b8 b9 _ b11 b12 b13 b14 b15 => ⟨⟨a0, a1, a2, ⟨b0, b1, b2, b3, b4, b5, b6, b7, b8, b9, x, b11, b12, b13, b14, b15⟩, a4, a5, a6, a7, a8, a9, a10, a11, a12, a13, a14, a15⟩, hi⟩⟩
  | 11 => ⟨fun fr x => Fr.casesOn fr fun lo hi => P16.casesOn lo fun a0 a1 a2 a3 a4 a5 a6 a7 a8 a9 a10 a11 a12 a13 a14 a15 => P16.casesOn a3 fun b0 b1 b2 b3 b4 b5 b6 b7 b8 b9 b10 _ b12 b13 b14 b15 => ⟨⟨a0, a1, a2, ⟨b0, b1, b2, b3, b4, b5, b6, b7, b8, b9, b10, x, b12, b13, b14, b15⟩, a4, a5, a6, a7, a8, a9, a10, a11, a12, a13, a14, a15⟩, hi⟩⟩
  | 12 => ⟨fun fr x => Fr.casesOn fr fun lo hi => P16.casesOn lo fun a0 a1 a2 a3 a4 a5 a6 a7 a8 a9 a10 a11 a12 a13 a14 a15 => P16.casesOn a3 fun b0 b1 b2 b3 b4 b5 b6 b7 b8 b9 b10 b11 _ b13 b14 b15 => ⟨⟨a0, a1, a2, ⟨b0, b1, b2, b3, b4, b5, b6, b7, b8, b9, b10, b11, x, b13, b14, b15⟩, a4, a5, a6, a7, a8, a9, a10, a11, a12, a13, a14, a15⟩, hi⟩⟩
  | 13 => ⟨fun fr x => Fr.casesOn fr fun lo hi => P16.casesOn lo fun a0 a1 a2 a3 a4 a5 a6 a7 a8 a9 a10 a11 a12 a13 a14 a15 => P16.casesOn a3 fun b0 b1 b2 b3 b4 b5 b6 b7 b8 b9 b10 b11 b12 _ b14 b15 => ⟨⟨a0, a1, a2, ⟨b0, b1, b2, b3, b4, b5, b6, b7, b8, b9, b10, b11, b12, x, b14, b15⟩, a4, a5, a6, a7, a8, a9, a10, a11, a12, a13, a14, a15⟩, hi⟩⟩
  | 14 => ⟨fun fr x => Fr.casesOn fr fun lo hi => P16.casesOn lo fun a0 a1 a2 a3 a4 a5 a6 a7 a8 a9 a10 a11 a12 a13 a14 a15 => P16.casesOn a3 fun b0 b1 b2 b3 b4 b5 b6 b7 b8 b9 b10 b11 b12 b13 _ b15 => ⟨⟨a0, a1, a2, ⟨b0, b1, b2, b3, b4, b5, b6, b7, b8, b9, b10, b11, b12, b13, x, b15⟩, a4, a5, a6, a7, a8, a9, a10, a11, a12, a13, a14, a15⟩, hi⟩⟩
  | _ => ⟨fun fr x => Fr.casesOn fr fun lo hi => P16.casesOn lo fun a0 a1 a2 a3 a4 a5 a6 a7 a8 a9 a10 a11 a12 a13 a14 a15 => P16.casesOn a3 fun b0 b1 b2 b3 b4 b5 b6 b7 b8 b9 b10 b11 b12 b13 b14 _ => ⟨⟨a0, a1, a2, ⟨b0, b1, b2, b3, b4, b5, b6, b7, b8, b9, b10, b11, b12, b13, b14, x⟩, a4, a5, a6, a7, a8, a9, a10, a11, a12, a13, a14, a15⟩, hi⟩⟩
def rd4_ (j : Nat) : EvC := match j with
  | 0 => ⟨fun fr => fr.lo.p4.p0⟩
  | 1 => ⟨fun fr => fr.lo.p4.p1⟩
  | 2 => ⟨fun fr => fr.lo.p4.p2⟩
  | 3 => ⟨fun fr => fr.lo.p4.p3⟩
  | 4 => ⟨fun fr => fr.lo.p4.p4⟩
  | 5 => ⟨fun fr => fr.lo.p4.p5⟩
  | 6 => ⟨fun fr => fr.lo.p4.p6⟩
  | 7 => ⟨fun fr => fr.lo.p4.p7⟩
  | 8 => ⟨fun fr => fr.lo.p4.p8⟩
  | 9 => ⟨fun fr => fr.lo.p4.p9⟩
  | 10 => ⟨fun fr => fr.lo.p4.p10⟩
  | 11 => ⟨fun fr => fr.lo.p4.p11⟩
  | 12 => ⟨fun fr => fr.lo.p4.p12⟩
  | 13 => ⟨fun fr => fr.lo.p4.p13⟩
  | 14 => ⟨fun fr => fr.lo.p4.p14⟩
  | _ => ⟨fun fr => fr.lo.p4.p15⟩
def wr4_ (j : Nat) : Wr := match j with
  | 0 => ⟨fun fr x => Fr.casesOn fr fun lo hi => P16.casesOn lo fun a0 a1 a2 a3 a4 a5 a6 a7 a8 a9 a10 a11 a12 a13 a14 a15 => P16.casesOn a4 fun _ b1 b2 b3 b4 b5 b6 b7 b8 b9 b10 b11 b12 b13 b14 b15 => ⟨⟨a0, a1, a2, a3, ⟨x, b1, b2, b3, b4, b5, b6, b7, b8, b9, b10, b11, b12, b13, b14, b15⟩, a5, a6, a7, a8, a9, a10, a11, a12, a13, a14, a15⟩, hi⟩⟩
  | 1 => ⟨fun fr x => Fr.casesOn fr fun lo hi => P16.casesOn lo fun a0 a1 a2 a3 a4 a5 a6 a7 a8 a9 a10 a11 a12 a13 a14 a15 => P16.casesOn a4 fun b0 _ b2 b3 b4 b5 b6 b7 b8 b9 b10 b11 b12 b13 b14 b15 => ⟨⟨a0, a1, a2, a3, ⟨b0, x, b2, b3, b4, b5, b6, b7, b8, b9, b10, b11, b12, b13, b14, b15⟩, a5, a6, a7, a8, a9, a10, a11, a12, a13, a14, a15⟩, hi⟩⟩
  | 2 => ⟨fun fr x => Fr.casesOn fr fun lo hi => P16.casesOn lo fun a0 a1 a2 a3 a4 a5 a6 a7 a8 a9 a10 a11 a12 a13 a14 a15 => P16.casesOn a4 fun b0 b1 _ b3 b4 b5 b6 b7 b8 b9 b10 b11 b12 b13 b14 b15 => ⟨⟨a0, a1, a2, a3, ⟨b0, b1, x, b3, b4, b5, b6, b7, b8, b9, b10, b11, b12, b13, b14, b15⟩, a5, a6, a7, a8, a9, a10, a11, a12, a13, a14, a15⟩, hi⟩⟩
  | 3 => ⟨fun fr x => Fr.casesOn fr fun lo hi => P16.casesOn lo fun a0 a1 a2 a3 a4 a5 a6 a7 a8 a9 a10 a11 a12 a13 a14 a15 => P16.casesOn a4 fun b0 b1 b2 _ b4 b5 b6 b7 b8 b9 b10 b11 b12 b13 b14 b15 => ⟨⟨a0, a1, a2, a3, ⟨b0, b1, b2, x, b4, b5, b6, b7, b8, b9, b10, b11, b12, b13, b14, b15⟩, a5, a6, a7, a8, a9, a10, a11, a12, a13, a14, a15⟩, hi⟩⟩
  | 4 => ⟨fun fr x => Fr.casesOn fr fun lo hi => P16.casesOn lo fun a0 a1 a2 a3 a4 a5 a6 a7 a8 a9 a10 a11 a12 a13 a14 a15 => P16.casesOn a4 fun b0 b1 b2 b3 _ b5 b6 b7 b8 b9 b10 b11 b12 b13 b14 b15 => ⟨⟨a0, a1, a2, a3, ⟨b0, b1, b2, b3, x, b5, b6, b7, b8, b9, b10, b11, b12, b13, b14, b15⟩, a5, a6, a7, a8, a9, a10, a11, a12, a13, a14, a15⟩, hi⟩⟩
  | 5 => ⟨fun fr x => Fr.casesOn fr fun lo hi => P16.casesOn lo fun a0 a1 a2 a3 a4 a5 a6 a7 a8 a9 a10 a11 a12 a13 a14 a15 => P16.casesOn a4 fun b0 b1 b2 b3 b4 _ b6 b7 b8 b9 b10 b11 b12 b13 b14 b15 => ⟨⟨a0, a1, a2, a3, ⟨b0, b1, b2, b3, b4, x, b6, b7, b8, b9, b10, b11, b12, b13, b14, b15⟩, a5, a6, a7, a8, a9, a10, a11, a12, a13, a14, a15⟩, hi⟩⟩
  | 6 => ⟨fun fr x => Fr.casesOn fr fun lo hi => P16.casesOn lo fun a0 a1 a2 a3 a4 a5 a6 a7 a8 a9 a10 a11 a12 a13 a14 a15 => P16.casesOn a4 fun b0 b1 b2 b3 b4 b5 _ b7 b8 b9 b10 b11 b12 b13 b14 b15 => ⟨⟨a0, a1, a2, a3, ⟨b0, b1, b2, b3, b4, b5, x, b7, b8, b9, b10, b11, b12, b13, b14, b15⟩, a5, a6, a7, a8, a9, a10, a11, a12, a13, a14, a15⟩, hi⟩⟩
  | 7 => ⟨fun fr x => Fr.casesOn fr fun lo hi => P16.casesOn lo fun a0 a1 a2 a3 a4 a5 a6 a7 a8 a9 a10 a11 a12 a13 a14 a15 => P16.casesOn a4 fun b0 b1 b2 b3 b4 b5 b6 _ b8 b9 b10 b11 b12 b13 b14 b15 => ⟨⟨a0, a1, a2, a3, ⟨b0, b1, b2, b3, b4, b5, b6, x, b8, b9, b10, b11, b12, b13, b14, b15⟩, a5, a6, a7, a8, a9, a10, a11, a12, a13, a14, a15⟩, hi⟩⟩
  | 8 => ⟨fun fr x => Fr.casesOn fr fun lo hi => P16.casesOn lo fun a0 a1 a2 a3 a4 a5 a6 a7 a8 a9 a10 a11 a12 a13 a14 a15 => P16.casesOn a4 fun b0 b1 b2 b3 b4 b5 b6 b7 _ b9 b10 b11 b12 b13 b14 b15 => ⟨⟨a0, a1, a2, a3, ⟨b0, b1, b2, b3, b4, b5, b6, b7, x, b9, b10, b11, b12, b13, b14, b15⟩, a5, a6, a7, a8, a9, a10, a11, a12, a13, a14, a15⟩, hi⟩⟩
  | 9 => ⟨fun fr x => Fr.casesOn fr fun lo hi => P16.casesOn lo fun a0 a1 a2 a3 a4 a5 a6 a7 a8 a9 a10 a11 a12 a13 a14 a15 => P16.casesOn a4 fun b0 b1 b2 b3 b4 b5 b6 b7 b8 _ b10 b11 b12 b13 b14 b15 => ⟨⟨a0, a1, a2, a3, ⟨b0, b1, b2, b3, b4, b5, b6, b7, b8, x, b10, b11, b12, b13, b14, b15⟩, a5, a6, a7, a8, a9, a10, a11, a12, a13, a14, a15⟩, hi⟩⟩
  | 10 => ⟨fun fr x => Fr.casesOn fr fun lo hi => P16.casesOn lo fun a0 a1 a2 a3 a4 a5 a6 a7 a8 a9 a10 a11 a12 a13 a14 a15 => P16.casesOn a4 fun b0 b1 b2 b3 b4 b5 b6 b7 b8 b9 _ b11 b12 b13 b14 b15 => ⟨⟨a0, a1, a2, a3, ⟨b0, b1, b2, b3, b4, b5, b6, b7, b8, b9, x, b11, b12, b13, b14, b15⟩, a5, a6, a7, a8, a9, a10, a11, a12, a13, a14, a15⟩, hi⟩⟩
  | 11 => ⟨fun fr x => Fr.casesOn fr fun lo hi => P16.casesOn lo fun a0 a1 a2 a3 a4 a5 a6 a7 a8 a9 a10 a11 a12 a13 a14 a15 => P16.casesOn a4 fun b0 b1 b2 b3 b4 b5 b6 b7 b8 b9 b10 _ b12 b13 b14 b15 => ⟨⟨a0, a1, a2, a3, ⟨b0, b1, b2, b3, b4, b5, b6, b7, b8, b9, b10, x, b12, b13, b14, b15⟩, a5, a6, a7, a8, a9, a10, a11, a12, a13, a14, a15⟩, hi⟩⟩
  | 12 => ⟨fun fr x => Fr.casesOn fr fun lo hi => P16.casesOn lo fun a0 a1 a2 a3 a4 a5 a6 a7 a8 a9 a10 a11 a12 a13 a14 a15 => P16.casesOn a4 fun b0 b1 b2 b3 b4 b5 b6 b7 b8 b9 b10 b11 _ b13 b14 b15 => ⟨⟨a0, a1, a2, a3, ⟨b0, b1, b2, b3, b4, b5, b6, b7, b8, b9, b10, b11, x, b13, b14, b15⟩, a5, a6, a7, a8, a9, a10, a11, a12, a13, a14, a15⟩, hi⟩⟩
  | 13 => ⟨fun fr x => Fr.casesOn fr fun lo hi => P16.casesOn lo fun a0 a1 a2 a3 a4 a5 a6 a7 a8 a9 a10 a11 a12 a13 a14 a15 => P16.casesOn a4 fun b0 b1 b2 b3 b4 b5 b6 b7 b8 b9 b10 b11 b12 _ b14 b15 => ⟨⟨a0, a1, a2, a3, ⟨b0, b1, b2, b3, b4, b5, b6, b7, b8, b9, b10, b11, b12, x, b14, b15⟩, a5, a6, a7, a8, a9, a10, a11, a12, a13, a14, a15⟩, hi⟩⟩
  | 14 => ⟨fun fr x => Fr.casesOn fr fun lo hi => P16.casesOn lo fun a0 a1 a2 a3 a4 a5 a6 a7 a8 a9 a10 a11 a12 a13 a14 a15 => P16.casesOn a4 fun b0 b1 b2 b3 b4 b5 b6 b7 b8 b9 b10 b11 b12 b13 _ b15 => ⟨⟨a0, a1, a2, a3, ⟨b0, b1, b2, b3, b4, b5, b6, b7, b8, b9, b10, b11, b12, b13, x, b15⟩, a5, a6, a7, a8, a9, a10, a11, a12, a13, a14, a15⟩, hi⟩⟩
  | _ => ⟨fun fr x => Fr.casesOn fr fun lo hi => P16.casesOn lo fun a0 a1 a2 a3 a4 a5 a6 a7 a8 a9 a10 a11 a12 a13 a14 a15 => P16.casesOn a4 fun b0 b1 b2 b3 b4 b5 b6 b7 b8 b9 b10 b11 b12 b13 b14 _ => ⟨⟨a0, a1, a2, a3, ⟨b0, b1, b2, b3, b4, b5, b6, b7, b8, b9, b10, b11, b12, b13, b14, x⟩, a5, a6, a7, a8, a9, a10, a11, a12, a13, a14, a15⟩, hi⟩⟩
def rd5_ (j : Nat) : EvC := match j with
  | 0 => ⟨fun fr => fr.lo.p5.p0⟩
  | 1 => ⟨fun fr => fr.lo.p5.p1⟩
  | 2 => ⟨fun fr => fr.lo.p5.p2⟩
  | 3 => ⟨fun fr => fr.lo.p5.p3⟩
  | 4 => ⟨fun fr => fr.lo.p5.p4⟩
  | 5 => ⟨fun fr => fr.lo.p5.p5⟩
  | 6 => ⟨fun fr => fr.lo.p5.p6⟩
  | 7 => ⟨fun fr => fr.lo.p5.p7⟩
  | 8 => ⟨fun fr => fr.lo.p5.p8⟩
  | 9 => ⟨fun fr => fr.lo.p5.p9⟩
  | 10 => ⟨fun fr => fr.lo.p5.p10⟩
  | 11 => ⟨fun fr => fr.lo.p5.p11⟩
  | 12 => ⟨fun fr => fr.lo.p5.p12⟩
  | 13 => ⟨fun fr => fr.lo.p5.p13⟩
  | 14 => ⟨fun fr => fr.lo.p5.p14⟩
  | _ => ⟨fun fr => fr.lo.p5.p15⟩
def wr5_ (j : Nat) : Wr := match j with
  | 0 => ⟨fun fr x => Fr.casesOn fr fun lo hi => P16.casesOn lo fun a0 a1 a2 a3 a4 a5 a6 a7 a8 a9 a10 a11 a12 a13 a14 a15 => P16.casesOn a5 fun _ b1 b2 b3 b4 b5 b6 b7 b8 b9 b10 b11 b12 b13 b14 b15 => ⟨⟨a0, a1, a2, a3, a4, ⟨x, b1, b2, b3, b4, b5, b6, b7, b8, b9, b10, b11, b12, b13, b14, b15⟩, a6, a7, a8, a9, a10, a11, a12, a13, a14, a15⟩, hi⟩⟩
  | 1 => ⟨fun fr x => Fr.casesOn fr fun lo hi => P16.casesOn lo fun a0 a1 a2 a3 a4 a5 a6 a7 a8 a9 a10 a11 a12 a13 a14 a15 => P16.casesOn a5 fun b0 _ b2 b3 b4 b5 b6 b7 b8 b9 b10 b11 b12 b13 b14 b15 => ⟨⟨a0, a1, a2, a3, a4, ⟨b0, x, b2, b3, b4, b5, b6, b7, b8, b9, b10, b11, b12, b13, b14, b15⟩, a6, a7, a8, a9, a10, a11, a12, a13, a14, a15⟩, hi⟩⟩
  | 2 => ⟨fun fr x => Fr.casesOn fr fun lo hi => P16.casesOn lo fun a0 a1 a2 a3 a4 a5 a6 a7 a8 a9 a10 a11 a12 a13 a14 a15 => P16.casesOn a5 fun b0 b1 _ b3 b4 b5 b6 b7 b8 b9 b10 b11 b12 b13 b14 b15 => ⟨⟨a0, a1, a2, a3, a4, ⟨b0, b1, x, b3, b4, b5, b6, b7, b8, b9, b10, b11, b12, b13, b14, b15⟩, a6, a7, a8, a9, a10, a11, a12, a13, a14, a15⟩, hi⟩⟩
  | 3 => ⟨fun fr x => Fr.casesOn fr fun lo hi => P16.casesOn lo fun a0 a1 a2 a3 a4 a5 a6 a7 a8 a9 a10 a11 a12 a13 a14 a15 => P16.casesOn a5 fun b0 b1 b2 _ b4 b5 b6 b7 b8 b9 b10 b11 b12 b13 b14 b15 => ⟨⟨a0, a1, a2, a3, a4, ⟨b0, b1, b2, x, b4, b5, b6, b7, b8, b9, b10, b11, b12, b13, b14, b15⟩, a6, a7, a8, a9, a10, a11, a12, a13, a14, a15⟩, hi⟩⟩
  | 4 => ⟨fun fr x => Fr.casesOn fr fun lo hi => P16.casesOn lo fun a0 a1 a2 a3 a4 a5 a6 a7 a8 a9 a10 a11 a12 a13 a14 a15 => P16.casesOn a5 fun b0 b1 b2 b3 _ b5 b6 b7 b8 b9 b10 b11 b12 b13 b14 b15 => ⟨⟨a0, a1, a2, a3, a4, ⟨b0, b1, b2, b3, x, b5, b6, b7, b8, b9, b10, b11, b12, b13, b14, b15⟩, a6, a7, a8, a9, a10, a11, a12, a13, a14, a15⟩, hi⟩⟩
  | 5 => ⟨fun fr x => Fr.casesOn fr fun lo hi => P16.casesOn lo fun a0 a1 a2 a3 a4 a5 a6 a7 a8 a9 a10 a11 a12 a13 a14 a15 => P16.casesOn a5 fun b0 b1 b2 b3 b4 _ b6 b7 b8 b9 b10 b11 b12 b13 b14 b15 => ⟨⟨a0, a1, a2, a3, a4, ⟨b0, b1, b2, b3, b4, x, b6, b7, b8, b9, b10, b11, b12, b13, b14, b15⟩, a6, a7, a8, a9, a10, a11, a12, a13, a14, a15⟩, hi⟩⟩
  | 6 => ⟨fun fr x => Fr.casesOn fr fun lo hi => P16.casesOn lo fun a0 a1 a2 a3 a4 a5 a6 a7 a8 a9 a10 a11 a12 a13 a14 a15 => P16.casesOn a5 fun b0 b1 b2 b3 b4 b5 _ b7 b8 b9 b10 b11 b12 b13 b14 b15 => ⟨⟨a0, a1, a2, a3, a4, ⟨b0, b1, b2, b3, b4, b5, x, b7, b8, b9, b10, b11, b12, b13, b14, b15⟩, a6, a7, a8, a9, a10, a11, a12, a13, a14, a15⟩, hi⟩⟩
  | 7 => ⟨fun fr x => Fr.casesOn fr fun lo hi => P16.casesOn lo fun a0 a1 a2 a3 a4 a5 a6 a7 a8 a9 a10 a11 a12 a13 a14 a15 => P16.casesOn a5 fun b0 b1 b2 b3 b4 b5 b6 _ b8 b9 b10 b11 b12 b13 b14 b15 => ⟨⟨a0, a1, a2, a3, a4, ⟨b0, b1, b2, b3, b4, b5, b6, x, b8, b9, b10, b11, b12, b13, b14, b15⟩, a6, a7, a8, a9, a10, a11, a12, a13, a14, a15⟩, hi⟩⟩
  | 8 => ⟨fun fr x => Fr.casesOn fr fun lo hi => P16.casesOn lo fun a0 a1 a2 a3 a4 a5 a6 a7 a8 a9 a10 a11 a12 a13 a14 a15 => P16.casesOn a5 fun b0 b1 b2 b3 b4 b5 b6 b7 _ b9 b10 b11 b12 b13 b14 b15 => ⟨⟨a0, a1, a2, a3, a4, ⟨b0, b1, b2, b3, b4, b5, b6, b7, x, b9, b10, b11, b12, b13, b14, b15⟩, a6, a7, a8, a9, a10, a11, a12, a13, a14, a15⟩, hi⟩⟩
  | 9 => ⟨fun fr x => Fr.casesOn fr fun lo hi => P16.casesOn lo fun a0 a1 a2 a3 a4 a5 a6 a7 a8 a9 a10 a11 a12 a13 a14 a15 => P16.casesOn a5 fun b0 b1 b2 b3 b4 b5 b6 b7 b8 _ b10 b11 b12 b13 b14 b15 => ⟨⟨a0, a1, a2, a3, a4, ⟨b0, b1, b2, b3, b4, b5, b6, b7, b8, x, b10, b11, b12, b13, b14, b15⟩, a6, a7, a8, a9, a10, a11, a12, a13, a14, a15⟩, hi⟩⟩
  | 10 => ⟨fun fr x => Fr.casesOn fr fun lo hi => P16.casesOn lo fun a0 a1 a2 a3 a4 a5 a6 a7 a8 a9 a10 a11 a12 a13 a14 a15 => P16.casesOn a5 fun b0 b1 b2 b3 b4 b5 b6 b7 b8 b9 _ b11 b12 b13 b14 b15 => ⟨⟨a0, a1, a2, a3, a4, ⟨b0, b1, b2, b3, b4, b5, b6, b7, b8, b9, x, b11, b12, b13, b14, b15⟩, a6, a7, a8, a9, a10, a11, a12, a13, a14, a15⟩, hi⟩⟩
  | 11 => ⟨fun fr x => Fr.casesOn fr fun lo hi => P16.casesOn lo fun a0 a1 a2 a3 a4 a5 a6 a7 a8 a9 a10 a11 a12 a13 a14 a15 => P16.casesOn a5 fun b0 b1 b2 b3 b4 b5 b6 b7 b8 b9 b10 _ b12 b13 b14 b15 => ⟨⟨a0, a1, a2, a3, a4, ⟨b0, b1, b2, b3, b4, b5, b6, b7, b8, b9, b10, x, b12, b13, b14, b15⟩, a6, a7, a8, a9, a10, a11, a12, a13, a14, a15⟩, hi⟩⟩
  | 12 => ⟨fun fr x => Fr.casesOn fr fun lo hi => P16.casesOn lo fun a0 a1 a2 a3 a4 a5 a6 a7 a8 a9 a10 a11 a12 a13 a14 a15 => P16.casesOn a5 fun b0 b1 b2 b3 b4 b5 b6 b7 b8 b9 b10 b11 _ b13 b14 b15 => ⟨⟨a0, a1, a2, a3, a4, ⟨b0, b1, b2, b3, b4, b5, b6, b7, b8, b9, b10, b11, x, b13, b14, b15⟩, a6, a7, a8, a9, a10, a11, a12, a13, a14, a15⟩, hi⟩⟩
  | 13 => ⟨fun fr x => Fr.casesOn fr fun lo hi => P16.casesOn lo fun a0 a1 a2 a3 a4 a5 a6 a7 a8 a9 a10 a11 a12 a13 a14 a15 => P16.casesOn a5 fun b0 b1 b2 b3 b4 b5 b6 b7 b8 b9 b10 b11 b12 _ b14 b15 => ⟨⟨a0, a1, a2, a3, a4, ⟨b0, b1, b2, b3, b4, b5, b6, b7, b8, b9, b10, b11, b12, x, b14, b15⟩, a6, a7, a8, a9, a10, a11, a12, a13, a14, a15⟩, hi⟩⟩
  | 14 => ⟨fun fr x => Fr.casesOn fr fun lo hi => P16.casesOn lo fun a0 a1 a2 a3 a4 a5 a6 a7 a8 a9 a10 a11 a12 a13 a14 a15 => P16.casesOn a5 fun b0 b1 b2 b3 b4 b5 b6 b7 b8 b9 b10 b11 b12 b13 _ b15 => ⟨⟨a0, a1, a2, a3, a4, ⟨b0, b1, b2, b3, b4, b5, b6, b7, b8, b9, b10, b11, b12, b13, x, b15⟩, a6, a7, a8, a9, a10, a11, a12, a13, a14, a15⟩, hi⟩⟩
  | _ => ⟨fun fr x => Fr.casesOn fr fun lo hi => P16.casesOn lo fun a0 a1 a2 a3 a4 a5 a6 a7 a8 a9 a10 a11 a12 a13 a14 a15 => P16.casesOn a5 fun b0 b1 b2 b3 b4 b5 b6 b7 b8 b9 b10 b11 b12 b13 b14 _ => ⟨⟨a0, a1, a2, a3, a4, ⟨b0, b1, b2, b3, b4, b5, b6, b7, b8, b9, b10, b11, b12, b13, b14, x⟩, a6, a7, a8, a9, a10, a11, a12, a13, a14, a15⟩, hi⟩⟩
def rd6_ (j : Nat) : EvC := match j with
  | 0 => ⟨fun fr => fr.lo.p6.p0⟩
  | 1 => ⟨fun fr => fr.lo.p6.p1⟩
  | 2 => ⟨fun fr => fr.lo.p6.p2⟩
  | 3 => ⟨fun fr => fr.lo.p6.p3⟩
  | 4 => ⟨fun fr => fr.lo.p6.p4⟩
  | 5 => ⟨fun fr => fr.lo.p6.p5⟩
  | 6 => ⟨fun fr => fr.lo.p6.p6⟩
  | 7 => ⟨fun fr => fr.lo.p6.p7⟩
  | 8 => ⟨fun fr => fr.lo.p6.p8⟩
  | 9 => ⟨fun fr => fr.lo.p6.p9⟩
  | 10 => ⟨fun fr => fr.lo.p6.p10⟩
  | 11 => ⟨fun fr => fr.lo.p6.p11⟩
  | 12 => ⟨fun fr => fr.lo.p6.p12⟩
  | 13 => ⟨fun fr => fr.lo.p6.p13⟩
  | 14 => ⟨fun fr => fr.lo.p6.p14⟩
  | _ => ⟨fun fr => fr.lo.p6.p15⟩
def wr6_ (j : Nat) : Wr := match j with
  | 0 => ⟨fun fr x => Fr.casesOn fr fun lo hi => P16.casesOn lo fun a0 a1 a2 a3 a4 a5 a6 a7 a8 a9 a10 a11 a12 a13 a14 a15 => P16.casesOn a6 fun _ b1 b2 b3 b4 b5 b6 b7 b8 b9 b10 b11 b12 b13 b14 b15 => ⟨⟨a0, a1, a2, a3, a4, a5, ⟨x, b1, b2, b3, b4, b5, b6, b7, b8, b9, b10, b11, b12, b13, b14, b15⟩, a7, a8, a9, a10, a11, a12, a13, a14, a15⟩, hi⟩⟩
  | 1 => ⟨fun fr x => Fr.casesOn fr fun lo hi => P16.casesOn lo fun a0 a1 a2 a3 a4 a5 a6 a7 a8 a9 a10 a11 a12 a13 a14 a15 => P16.casesOn a6 fun b0 _ b2 b3 b4 b5 b6 b7 b8 b9 b10 b11 b12 b13 b14 b15 => ⟨⟨a0, a1, a2, a3, a4, a5, ⟨b0, x, b2, b3, b4, b5, b6, b7, b8, b9, b10, b11, b12, b13, b14, b15⟩, a7, a8, a9, a10, a11, a12, a13, a14, a15⟩, hi⟩⟩
  | 2 => ⟨fun fr x => Fr.casesOn fr fun lo hi => P16.casesOn lo fun a0 a1 a2 a3 a4 a5 a6 a7 a8 a9 a10 a11 a12 a13 a14 a15 => P16.casesOn a6 fun b0 b1 _ b3 b4 b5 b6 b7 b8 b9 b10 b11 b12 b13 b14 b15 => ⟨⟨a0, a1, a2, a3, a4, a5, ⟨b0, b1, x, b3, b4, b5, b6, b7, b8, b9, b10, b11, b12, b13, b14, b15⟩, a7, a8, a9, a10, a11, a12, a13, a14, a15⟩, hi⟩⟩
  | 3 => ⟨fun fr x => Fr.casesOn fr fun lo hi => P16.casesOn lo fun a0 a1 a2 a3 a4 a5 a6 a7 a8 a9 a10 a11 a12 a13 a14 a15 => P16.casesOn a6 fun b0 b1 b2 _ b4 b5 b6 b7 b8 b9 b10 b11 b12 b13 b14 b15 => ⟨⟨a0, a1, a2, a3, a4, a5, ⟨b0, b1, b2, x, b4, b5, b6, b7, b8, b9, b10, b11, b12, b13, b14, b15⟩, a7, a8, a9, a10, a11, a12, a13, a14, a15⟩, hi⟩⟩
  | 4 => ⟨fun fr x => Fr.casesOn fr fun lo hi => P16.casesOn lo fun a0 a1 a2 a3 a4 a5 a6 a7 a8 a9 a10 a11 a12 a13 a14 a15 => P16.casesOn a6 fun b0 b1 b2 b3 _ b5 b6 b7 b8 b9 b10 b11 b12 b13 b14 b15 => ⟨⟨a0, a1, a2, a3, a4, a5, ⟨b0, b1, b2, b3, x, b5, b6, b7, b8, b9, b10, b11, b12, b13, b14, b15⟩, a7, a8, a9, a10, a11, a12, a13, a14, a15⟩, hi⟩⟩
  | 5 => ⟨fun fr x => Fr.casesOn fr fun lo hi => P16.casesOn lo fun a0 a1 a2 a3 a4 a5 a6 a7 a8 a9 a10 a11 a12 a13 a14 a15 => P16.casesOn a6 fun b0 b1 b2 b3 b4 _ b6 b7 b8 b9 b10 b11 b12 b13 b14 b15 => ⟨⟨a0, a1, a2, a3, a4, a5, ⟨b0, b1, b2, b3, b4, x, b6, b7, b8, b9, b10, b11, b12, b13, b14, b15⟩, a7, a8, a9, a10, a11, a12, a13, a14, a15⟩, hi⟩⟩
  | 6 => ⟨fun fr x => Fr.casesOn fr fun lo hi => P16.casesOn lo fun a0 a1 a2 a3 a4 a5 a6 a7 a8 a9 a10 a11 a12 a13 a14 a15 => P16.casesOn a6 fun b0 b1 b2 b3 b4 b5 _ b7 b8 b9 b10 b11 b12 b13 b14 b15 => ⟨⟨a0, a1, a2, a3, a4, a5, ⟨b0, b1, b2, b3, b4, b5, x, b7, b8, b9, b10, b11, b12, b13, b14, b15⟩, a7, a8, a9, a10, a11, a12, a13, a14, a15⟩, hi⟩⟩
  | 7 => ⟨fun fr x => Fr.casesOn fr fun lo hi => P16.casesOn lo fun a0 a1 a2 a3 a4 a5 a6 a7 a8 a9 a10 a11 a12 a13 a14 a15 => P16.casesOn a6 fun b0 b1 b2 b3 b4 b5 b6 _ b8 b9 b10 b11 b12 b13 b14 b15 => ⟨⟨a0, a1, a2, a3, a4, a5, ⟨b0, b1, b2, b3, b4, b5, b6, x, b8, b9, b10, b11, b12, b13, b14, b15⟩, a7, a8, a9, a10, a11, a12, a13, a14, a15⟩, hi⟩⟩
  | 8 => ⟨fun fr x => Fr.casesOn fr fun lo hi => P16.casesOn lo fun a0 a1 a2 a3 a4 a5 a6 a7 a8 a9 a10 a11 a12 a13 a14 a15 => P16.casesOn a6 fun b0 b1 b2 b3 b4 b5 b6 b7 _ b9 b10 b11 b12 b13 b14 b15 => ⟨⟨a0, a1, a2, a3, a4, a5, ⟨b0, b1, b2, b3, b4, b5, b6, b7, x, b9, b10, b11, b12, b13, b14, b15⟩, a7, a8, a9, a10, a11, a12, a13, a14, a15⟩, hi⟩⟩
  | 9 => ⟨fun fr x => Fr.casesOn fr fun lo hi => P16.casesOn lo fun a0 a1 a2 a3 a4 a5 a6 a7 a8 a9 a10 a11 a12 a13 a14 a15 => P16.casesOn a6 fun b0 b1 b2 b3 b4 b5 b6 b7 b8 _ b10 b11 b12 b13 b14 b15 => ⟨⟨a0, a1, a2, a3, a4, a5, ⟨b0, b1, b2, b3, b4, b5, b6, b7, b8, x, b10, b11, b12, b13, b14, b15⟩, a7, a8, a9, a10, a11, a12, a13, a14, a15⟩, hi⟩⟩
  | 10 => ⟨fun fr x => Fr.casesOn fr fun lo hi => P16.casesOn lo fun a0 a1 a2 a3 a4 a5 a6 a7 a8 a9 a10 a11 a12 a13 a14 a15 => P16.casesOn a6 fun b0 b1 b2 b3 b4 b5 b6 b7 b8 b9 _ b11 b12 b13 b14 b15 => ⟨⟨a0, a1, a2, a3, a4, a5, ⟨b0, b1, b2, b3, b4, b5, b6, b7, b8, b9, x, b11, b12, b13, b14, b15⟩, a7, a8, a9, a10, a11, a12, a13, a14, a15⟩, hi⟩⟩
  | 11 => ⟨fun fr x => Fr.casesOn fr fun lo hi => P16.casesOn lo fun a0 a1 a2 a3 a4 a5 a6 a7 a8 a9 a10 a11 a12 a13 a14 a15 => P16.casesOn a6 fun b0 b1 b2 b3 b4 b5 b6 b7 b8 b9 b10 _ b12 b13 b14 b15 => ⟨⟨a0, a1, a2, a3, a4, a5, ⟨b0, b1, b2, b3, b4, b5, b6, b7, b8, b9, b10, x, b12, b13, b14, b15⟩, a7, a8, a9, a10, a11, a12, a13, a14, a15⟩, hi⟩⟩
  | 12 => ⟨fun fr x => Fr.casesOn fr fun lo hi => P16.casesOn lo fun a0 a1 a2 a3 a4 a5 a6 a7 a8 a9 a10 a11 a12 a13 a14 a15 => P16.casesOn a6 fun b0 b1 b2 b3 b4 b5 b6 b7 b8 b9 b10 b11 _ b13 b14 b15 => ⟨⟨a0, a1, a2, a3, a4, a5, ⟨b0, b1, b2, b3, b4, b5, b6, b7, b8, b9, b10, b11, x, b13, b14, b15⟩, a7, a8, a9, a10, a11, a12, a13, a14, a15⟩, hi⟩⟩
  | 13 => ⟨fun fr x => Fr.casesOn fr fun lo hi => P16.casesOn lo fun a0 a1 a2 a3 a4 a5 a6 a7 a8 a9 a10 a11 a12 a13 a14 a15 => P16.casesOn a6 fun b0 b1 b2 b3 b4 b5 b6 b7 b8 b9 b10 b11 b12 _ b14 b15 => ⟨⟨a0, a1, a2, a3, a4, a5, ⟨b0, b1, b2, b3, b4, b5, b6, b7, b8, b9, b10, b11, b12, x, b14, b15⟩, a7, a8, a9, a10, a11, a12, a13, a14, a15⟩, hi⟩⟩
  | 14 => ⟨fun fr x => Fr.casesOn fr fun lo hi => P16.casesOn lo fun a0 a1 a2 a3 a4 a5 a6 a7 a8 a9 a10 a11 a12 a13 a14 a15 => P16.casesOn a6 fun b0 b1 b2 b3 b4 b5 b6 b7 b8 b9 b10 b11 b12 b13 _ b15 => ⟨⟨a0, a1, a2, a3, a4, a5, ⟨b0, b1, b2, b3, b4, b5, b6, b7, b8, b9, b10, b11, b12, b13, x, b15⟩, a7, a8, a9, a10, a11, a12, a13, a14, a15⟩, hi⟩⟩
  | _ => ⟨fun fr x => Fr.casesOn fr fun lo hi => P16.casesOn lo fun a0 a1 a2 a3 a4 a5 a6 a7 a8 a9 a10 a11 a12 a13 a14 a15 => P16.casesOn a6 fun b0 b1 b2 b3 b4 b5 b6 b7 b8 b9 b10 b11 b12 b13 b14 _ => ⟨⟨a0, a1, a2, a3, a4, a5, ⟨b0, b1, b2, b3, b4, b5, b6, b7, b8, b9, b10, b11, b12, b13, b14, x⟩, a7, a8, a9, a10, a11, a12, a13, a14, a15⟩, hi⟩⟩
def rd7_ (j : Nat) : EvC := match j with
  | 0 => ⟨fun fr => fr.lo.p7.p0⟩
  | 1 => ⟨fun fr => fr.lo.p7.p1⟩
  | 2 => ⟨fun fr => fr.lo.p7.p2⟩
  | 3 => ⟨fun fr => fr.lo.p7.p3⟩
  | 4 => ⟨fun fr => fr.lo.p7.p4⟩
  | 5 => ⟨fun fr => fr.lo.p7.p5⟩
  | 6 => ⟨fun fr => fr.lo.p7.p6⟩
  | 7 => ⟨fun fr => fr.lo.p7.p7⟩
  | 8 => ⟨fun fr => fr.lo.p7.p8⟩
  | 9 => ⟨fun fr => fr.lo.p7.p9⟩
  | 10 => ⟨fun fr => fr.lo.p7.p10⟩
  | 11 => ⟨fun fr => fr.lo.p7.p11⟩
  | 12 => ⟨fun fr => fr.lo.p7.p12⟩
  | 13 => ⟨fun fr => fr.lo.p7.p13⟩
  | 14 => ⟨fun fr => fr.lo.p7.p14⟩
  | _ => ⟨fun fr => fr.lo.p7.p15⟩
def wr7_ (j : Nat) : Wr := match j with
  | 0 => ⟨fun fr x => Fr.casesOn fr fun lo hi => P16.casesOn lo fun a0 a1 a2 a3 a4 a5 a6 a7 a8 a9 a10 a11 a12 a13 a14 a15 => P16.casesOn a7 fun _ b1 b2 b3 b4 b5 b6 b7 b8 b9 b10 b11 b12 b13 b14 b15 => ⟨⟨a0, a1, a2, a3, a4, a5, a6, ⟨x, b1, b2, b3, b4, b5, b6, b7, b8, b9, b10, b11, b12, b13, b14, b15⟩, a8, a9, a10, a11, a12, a13, a14, a15⟩, hi⟩⟩
  | 1 => ⟨fun fr x => Fr.casesOn fr fun lo hi => P16.casesOn lo fun a0 a1 a2 a3 a4 a5 a6 a7 a8 a9 a10 a11 a12 a13 a14 a15 => P16.casesOn a7 fun b0 _ b2 b3 b4 b5 b6 b7 b8 b9 b10 b11 b12 b13 b14 b15 => ⟨⟨a0, a1, a2, a3, a4, a5, a6, ⟨b0, x, b2, b3, b4, b5, b6, b7, b8, b9, b10, b11, b12, b13, b14, b15⟩, a8, a9, a10, a11, a12, a13, a14, a15⟩, hi⟩⟩
  | 2 => ⟨fun fr x => Fr.casesOn fr fun lo hi => P16.casesOn lo fun a0 a1 a2 a3 a4 a5 a6 a7 a8 a9 a10 a11 a12 a13 a14 a15 => P16.casesOn a7 fun b0 b1 _ b3 b4 b5 b6 b7 b8 b9 b10 b11 b12 b13 b14 b15 => ⟨⟨a0, a1, a2, a3, a4, a5, a6, ⟨b0, b1, x, b3, b4, b5, b6, b7, b8, b9, b10, b11, b12, b13, b14, b15⟩, a8, a9, a10, a11, a12, a13, a14, a15⟩, hi⟩⟩
  | 3 => ⟨fun fr x => Fr.casesOn fr fun lo hi => P16.casesOn lo fun a0 a1 a2 a3 a4 a5 a6 a7 a8 a9 a10 a11 a12 a13 a14 a15 => P16.casesOn a7 fun b0 b1 b2 _ b4 b5 b6 b7 b8 b9 b10 b11 b12 b13 b14 b15 => ⟨⟨a0, a1, a2, a3, a4, a5, a6, ⟨b0, b1, b2, x, b4, b5, b6, b7, b8, b9, b10, b11, b12, b13, b14, b15⟩, a8, a9, a10, a11, a12, a13, a14, a15⟩, hi⟩⟩
  | 4 => ⟨fun fr x => Fr.casesOn fr fun lo hi => P16.casesOn lo fun a0 a1 a2 a3 a4 a5 a6 a7 a8 a9 a10 a11 a12 a13 a14 a15 => P16.casesOn a7 fun b0 b1 b2 b3 _ b5 b6 b7 b8 b9 b10 b11 b12 b13 b14 b15 => ⟨⟨a0, a1, a2, a3, a4, a5, a6, ⟨b0, b1, b2, b3, x, b5, b6, b7, b8, b9, b10, b11, b12, b13, b14, b15⟩, a8, a9, a10, a11, a12, a13, a14, a15⟩, hi⟩⟩
  | 5 => ⟨fun fr x => Fr.casesOn fr fun lo hi => P16.casesOn lo fun a0 a1 a2 a3 a4 a5 a6 a7 a8 a9 a10 a11 a12 a13 a14 a15 => P16.casesOn a7 fun b0 b1 b2 b3 b4 _ b6 b7 b8 b9 b10 b11 b12 b13 b14 b15 => ⟨⟨a0, a1, a2, a3, a4, a5, a6, ⟨b0, b1, b2, b3, b4, x, b6, b7, b8, b9, b10, b11, b12, b13, b14, b15⟩, a8, a9, a10, a11, a12, a13, a14, a15⟩, hi⟩⟩
  | 6 => ⟨fun fr x => Fr.casesOn fr fun lo hi => P16.casesOn lo fun a0 a1 a2 a3 a4 a5 a6 a7 a8 a9 a10 a11 a12 a13 a14 a15 => P16.casesOn a7 fun b0 b1 b2 b3 b4 b5 _ b7 b8 b9 b10 b11 b12 b13 b14 b15 => ⟨⟨a0, a1, a2, a3, a4, a5, a6, ⟨b0, b1, b2, b3, b4, b5, x, b7, b8, b9, b10, b11, b12, b13, b14, b15⟩, a8, a9, a10, a11, a12, a13, a14, a15⟩, hi⟩⟩
  | 7 => ⟨fun fr x => Fr.casesOn fr fun lo hi => P16.casesOn lo fun a0 a1 a2 a3 a4 a5 a6 a7 a8 a9 a10 a11 a12 a13 a14 a15 => P16.casesOn a7 fun b0 b1 b2 b3 b4 b5 b6 _ b8 b9 b10 b11 b12 b13 b14 b15 => ⟨⟨a0, a1, a2, a3, a4, a5, a6, ⟨b0, b1, b2, b3, b4, b5, b6, x, b8, b9, b10, b11, b12, b13, b14, b15⟩, a8, a9, a10, a11, a12, a13, a14, a15⟩, hi⟩⟩
  | 8 => ⟨fun fr x => Fr.casesOn fr fun lo hi => P16.casesOn lo fun a0 a1 a2 a3 a4 a5 a6 a7 a8 a9 a10 a11 a12 a13 a14 a15 => P16.casesOn a7 fun b0 b1 b2 b3 b4 b5 b6 b7 _ b9 b10 b11 b12 b13 b14 b15 => ⟨⟨a0, a1, a2, a3, a4, a5, a6, ⟨b0, b1, b2, b3, b4, b5, b6, b7, x, b9, b10, b11, b12, b13, b14, b15⟩, a8, a9, a10, a11, a12, a13, a14, a15⟩, hi⟩⟩
  | 9 => ⟨fun fr x => Fr.casesOn fr fun lo hi => P16.casesOn lo fun a0 a1 a2 a3 a4 a5 a6 a7 a8 a9 a10 a11 a12 a13 a14 a15 => P16.casesOn a7 fun b0 b1 b2 b3 b4 b5 b6 b7 b8 _ b10 b11 b12 b13 b14 b15 => ⟨⟨a0, a1, a2, a3, a4, a5, a6, ⟨b0, b1, b2, b3, b4, b5, b6, b7, b8, x, b10, b11, b12, b13, b14, b15⟩, a8, a9, a10, a11, a12, a13, a14, a15⟩, hi⟩⟩
  | 10 => ⟨fun fr x => Fr.casesOn fr fun lo hi => P16.casesOn lo fun a0 a1 a2 a3 a4 a5 a6 a7 a8 a9 a10 a11 a12 a13 a14 a15 => P16.casesOn a7 fun b0 b1 b2 b3 b4 b5 b6 b7 b8 b9 _ b11 b12 b13 b14 b15 => ⟨⟨a0, a1, a2, a3, a4, a5, a6, ⟨b0, b1, b2, b3, b4, b5, b6, b7, b8, b9, x, b11, b12, b13, b14, b15⟩, a8, a9, a10, a11, a12, a13, a14, a15⟩, hi⟩⟩
  | 11 => ⟨fun fr x => Fr.casesOn fr fun lo hi => P16.casesOn lo fun a0 a1 a2 a3 a4 a5 a6 a7 a8 a9 a10 a11 a12 a13 a14 a15 => P16.casesOn a7 fun b0 b1 b2 b3 b4 b5 b6 b7 b8 b9 b10 _ b12 b13 b14 b15 => ⟨⟨a0, a1, a2, a3, a4, a5, a6, ⟨b0, b1, b2, b3, b4, b5, b6, b7, b8, b9, b10, x, b12, b13, b14, b15⟩, a8, a9, a10, a11, a12, a13, a14, a15⟩, hi⟩⟩
  | 12 => ⟨fun fr x => Fr.casesOn fr fun lo hi => P16.casesOn lo fun a0 a1 a2 a3 a4 a5 a6 a7 a8 a9 a10 a11 a12 a13 a14 a15 => P16.casesOn a7 fun b0 b1 b2 b3 b4 b5 b6 b7 b8 b9 b10 b11 _ b13 b14 b15 => ⟨⟨a0, a1, a2, a3, a4, a5, a6, ⟨b0, b1, b2, b3, b4, b5, b6, b7, b8, b9, b10, b11, x, b13, b14, b15⟩, a8, a9, a10, a11, a12, a13, a14, a15⟩, hi⟩⟩
  | 13 => ⟨fun fr x => Fr.casesOn fr fun lo hi => P16.casesOn lo fun a0 a1 a2 a3 a4 a5 a6 a7 a8 a9 a10 a11 a12 a13 a14 a15 => P16.casesOn a7 fun b0 b1 b2 b3 b4 b5 b6 b7 b8 b9 b10 b11 b12 _ b14 b15 => ⟨⟨a0, a1, a2, a3, a4, a5, a6, ⟨b0, b1, b2, b3, b4, b5, b6, b7, b8, b9, b10, b11, b12, x, b14, b15⟩, a8, a9, a10, a11, a12, a13, a14, a15⟩, hi⟩⟩
  | 14 => ⟨fun fr x => Fr.casesOn fr fun lo hi => P16.casesOn lo fun a0 a1 a2 a3 a4 a5 a6 a7 a8 a9 a10 a11 a12 a13 a14 a15 => P16.casesOn a7 fun b0 b1 b2 b3 b4 b5 b6 b7 b8 b9 b10 b11 b12 b13 _ b15 => ⟨⟨a0, a1, a2, a3, a4, a5, a6, ⟨b0, b1, b2, b3, b4, b5, b6, b7, b8, b9, b10, b11, b12, b13, x, b15⟩, a8, a9, a10, a11, a12, a13, a14, a15⟩, hi⟩⟩
  | _ => ⟨fun fr x => Fr.casesOn fr fun lo hi => P16.casesOn lo fun a0 a1 a2 a3 a4 a5 a6 a7 a8 a9 a10 a11 a12 a13 a14 a15 => P16.casesOn a7 fun b0 b1 b2 b3 b4 b5 b6 b7 b8 b9 b10 b11 b12 b13 b14 _ => ⟨⟨a0, a1, a2, a3, a4, a5, a6, ⟨b0, b1, b2, b3, b4, b5, b6, b7, b8, b9, b10, b11, b12, b13, b14, x⟩, a8, a9, a10, a11, a12, a13, a14, a15⟩, hi⟩⟩
def rd8_ (j : Nat) : EvC := match j with
  | 0 => ⟨fun fr => fr.lo.p8.p0⟩
  | 1 => ⟨fun fr => fr.lo.p8.p1⟩
  | 2 => ⟨fun fr => fr.lo.p8.p2⟩
  | 3 => ⟨fun fr => fr.lo.p8.p3⟩
  | 4 => ⟨fun fr => fr.lo.p8.p4⟩
  | 5 => ⟨fun fr => fr.lo.p8.p5⟩
  | 6 => ⟨fun fr => fr.lo.p8.p6⟩
  | 7 => ⟨fun fr => fr.lo.p8.p7⟩
  | 8 => ⟨fun fr => fr.lo.p8.p8⟩
  | 9 => ⟨fun fr => fr.lo.p8.p9⟩
  | 10 => ⟨fun fr => fr.lo.p8.p10⟩
  | 11 => ⟨fun fr => fr.lo.p8.p11⟩
  | 12 => ⟨fun fr => fr.lo.p8.p12⟩
  | 13 => ⟨fun fr => fr.lo.p8.p13⟩
  | 14 => ⟨fun fr => fr.lo.p8.p14⟩
  | _ => ⟨fun fr => fr.lo.p8.p15⟩
def wr8_ (j : Nat) : Wr := match j with
  | 0 => ⟨fun fr x => Fr.casesOn fr fun lo hi => P16.casesOn lo fun a0 a1 a2 a3 a4 a5 a6 a7 a8 a9 a10 a11 a12 a13 a14 a15 => P16.casesOn a8 fun _ b1 b2 b3 b4 b5 b6 b7 b8 b9 b10 b11 b12 b13 b14 b15 => ⟨⟨a0, a1, a2, a3, a4, a5, a6, a7, ⟨x, b1, b2, b3, b4, b5, b6, b7, b8, b9, b10, b11, b12, b13, b14, b15⟩, a9, a10, a11, a12, a13, a14, a15⟩, hi⟩⟩
  | 1 => ⟨fun fr x => Fr.casesOn fr fun lo hi => P16.casesOn lo fun a0 a1 a2 a3 a4 a5 a6 a7 a8 a9 a10 a11 a12 a13 a14 a15 => P16.casesOn a8 fun b0 _ b2 b3 b4 b5 b6 b7 b8 b9 b10 b11 b12 b13 b14 b15 => ⟨⟨a0, a1, a2, a3, a4, a5, a6, a7, ⟨b0, x, b2, b3, b4, b5, b6, b7, b8, b9, b10, b11, b12, b13, b14, b15⟩, a9, a10, a11, a12, a13, a14, a15⟩, hi⟩⟩
  | 2 => ⟨fun fr x => Fr.casesOn fr fun lo hi => P16.casesOn lo fun a0 a1 a2 a3 a4 a5 a6 a7 a8 a9 a10 a11 a12 a13 a14 a15 => P16.casesOn a8 fun b0 b1 _ b3 b4 b5 b6 b7 b8 b9 b10 b11 b12 b13 b14 b15 => ⟨⟨a0, a1, a2, a3, a4, a5, a6, a7, ⟨b0, b1, x, b3, b4, b5, b6, b7, b8, b9, b10, b11, b12, b13, b14, b15⟩, a9, a10, a11, a12, a13, a14, a15⟩, hi⟩⟩
  | 3 => ⟨fun fr x => Fr.casesOn fr fun lo hi => P16.casesOn lo fun a0 a1 a2 a3 a4 a5 a6 a7 a8 a9 a10 a11 a12 a13 a14 a15 => P16.casesOn a8 fun b0 b1 b2 _ b4 b5 b6 b7 b8 b9 b10 b11 b12 b13 b14 b15 => ⟨⟨a0, a1, a2, a3, a4, a5, a6, a7, ⟨b0, b1, b2, x, b4, b5, b6, b7, b8, b9, b10, b11, b12, b13, b14, b15⟩, a9, a10, a11, a12, a13, a14, a15⟩, hi⟩⟩
  | 4 => ⟨fun fr x => Fr.casesOn fr fun lo hi => P16.casesOn lo fun a0 a1 a2 a3 a4 a5 a6 a7 a8 a9 a10 a11 a12 a13 a14 a15 => P16.casesOn a8 fun b0 b1 b2 b3 _ b5 b6 b7 b8 b9 b10 b11 b12 b13 b14 b15 => ⟨⟨a0, a1, a2, a3, a4, a5, a6, a7, ⟨b0, b1, b2, b3, x, b5, b6, b7, b8, b9, b10, b11, b12, b13, b14, b15⟩, a9, a10, a11, a12, a13, a14, a15⟩, hi⟩⟩
  | 5 => ⟨fun fr x => Fr.casesOn fr fun lo hi => P16.casesOn lo fun a0 a1 a2 a3 a4 a5 a6 a7 a8 a9 a10 a11 a12 a13 a14 a15 => P16.casesOn a8 fun b0 b1 b2 b3 b4 _ b6 b7 b8 b9 b10 b11 b12 b13 b14 b15 => ⟨⟨a0, a1, a2, a3, a4, a5, a6, a7, ⟨b0, b1, b2, b3, b4, x, b6, b7, b8, b9, b10, b11, b12, b13, b14, b15⟩, a9, a10, a11, a12, a13, a14, a15⟩, hi⟩⟩
  | 6 => ⟨fun fr x => Fr.casesOn fr fun lo hi => P16.casesOn lo fun a0 a1 a2 a3 a4 a5 a6 a7 a8 a9 a10 a11 a12 a13 a14 a15 => P16.casesOn a8 fun b0 b1 b2 b3 b4 b5 _ b7 b8 b9 b10 b11 b12 b13 b14 b15 => ⟨⟨a0, a1, a2, a3, a4, a5, a6, a7, ⟨b0, b1, b2, b3, b4, b5, x, b7, b8, b9, b10, b11, b12, b13, b14, b15⟩, a9, a10, a11, a12, a13, a14, a15⟩, hi⟩⟩
  | 7 => ⟨fun fr x => Fr.casesOn fr fun lo hi => P16.casesOn lo fun a0 a1 a2 a3 a4 a5 a6 a7 a8 a9 a10 a11 a12 a13 a14 a15 => P16.casesOn a8 fun b0 b1 b2 b3 b4 b5 b6 _ b8 b9 b10 b11 b12 b13 b14 b15 => ⟨⟨a0, a1, a2, a3, a4, a5, a6, a7, ⟨b0, b1, b2, b3, b4, b5, b6, x, b8, b9, b10, b11, b12, b13, b14, b15⟩, a9, a10, a11, a12, a13, a14, a15⟩, hi⟩⟩
  | 8 => ⟨fun fr x => Fr.casesOn fr fun lo hi => P16.casesOn lo fun a0 a1 a2 a3 a4 a5 a6 a7 a8 a9 a10 a11 a12 a13 a14 a15 => P16.casesOn a8 fun b0 b1 b2 b3 b4 b5 b6 b7 _ b9 b10 b11 b12 b13 b14 b15 => ⟨⟨a0, a1, a2, a3, a4, a5, a6, a7, ⟨b0, b1, b2, b3, b4, b5, b6, b7, x, b9, b10, b11, b12, b13, b14, b15⟩, a9, a10, a11, a12, a13, a14, a15⟩, hi⟩⟩
  | 9 => ⟨fun fr x => Fr.casesOn fr fun lo hi => P16.casesOn lo fun a0 a1 a2 a3 a4 a5 a6 a7 a8 a9 a10 a11 a12 a13 a14 a15 => P16.casesOn a8 fun b0 b1 b2 b3 b4 b5 b6 b7 b8 _ b10 b11 b12 b13 b14 b15 => ⟨⟨a0, a1, a2, a3, a4, a5, a6, a7, ⟨b0, b1, b2, b3, b4, b5, b6, b7, b8, x, b10, b11, b12, b13, b14, b15⟩, a9, a10, a11, a12, a13, a14, a15⟩, hi⟩⟩
  | 10 => ⟨fun fr x => Fr.casesOn fr fun lo hi => P16.casesOn lo fun a0 a1 a2 a3 a4 a5 a6 a7 a8 a9 a10 a11 a12 a13 a14 a15 => P16.casesOn a8 fun b0 b1 b2 b3 b4 b5 b6 b7 b8 b9 _ b11 b12 b13 b14 b15 => ⟨⟨a0, a1, a2, a3, a4, a5, a6, a7, ⟨b0, b1, b2, b3, b4, b5, b6, b7, b8, b9, x, b11, b12, b13, b14, b15⟩, a9, a10, a11, a12, a13, a14, a15⟩, hi⟩⟩
  | 11 => ⟨fun fr x => Fr.casesOn fr fun lo hi => P16.casesOn lo fun a0 a1 a2 a3 a4 a5 a6 a7 a8 a9 a10 a11 a12 a13 a14 a15 => P16.casesOn a8 fun b0 b1 b2 b3 b4 b5 b6 b7 b8 b9 b10 _ b12 b13 b14 b15 => ⟨⟨a0, a1, a2, a3, a4, a5, a6, a7, ⟨b0, b1, b2, b3, b4, b5, b6, b7, b8, b9, b10, x, b12, b13, b14, b15⟩, a9, a10, a11, a12, a13, a14, a15⟩, hi⟩⟩
  | 12 => ⟨fun fr x => Fr.casesOn fr fun lo hi => P16.casesOn lo fun a0 a1 a2 a3 a4 a5 a6 a7 a8 a9 a10 a11 a12 a13 a14 a15 => P16.casesOn a8 fun b0 b1 b2 b3 b4 b5 b6 b7 b8 b9 b10 b11 _ b13 b14 b15 => ⟨⟨a0, a1, a2, a3, a4, a5, a6, a7, ⟨b0, b1, b2, b3, b4, b5, b6, b7, b8, b9, b10, b11, x, b13, b14, b15⟩, a9, a10, a11, a12, a13, a14, a15⟩, hi⟩⟩
  | 13 => ⟨fun fr x => Fr.casesOn fr fun lo hi => P16.casesOn lo fun a0 a1 a2 a3 a4 a5 a6 a7 a8 a9 a10 a11 a12 a13 a14 a15 => P16.casesOn a8 fun b0 b1 b2 b3 b4 b5 b6 b7 b8 b9 b10 b11 b12 _ b14 b15 => ⟨⟨a0, a1, a2, a3, a4, a5, a6, a7, ⟨b0, b1, b2, b3, b4, b5, b6, b7, b8, b9, b10, b11, b12, x, b14, b15⟩, a9, a10, a11, a12, a13, a14, a15⟩, hi⟩⟩
  | 14 => ⟨fun fr x => Fr.casesOn fr fun lo hi => P16.casesOn lo fun a0 a1 a2 a3 a4 a5 a6 a7 a8 a9 a10 a11 a12 a13 a14 a15 => P16.casesOn a8 fun b0 b1 b2 b3 b4 b5 b6 b7 b8 b9 b10 b11 b12 b13 _ b15 => ⟨⟨a0, a1, a2, a3, a4, a5, a6, a7, ⟨b0, b1, b2, b3, b4, b5, b6, b7, b8, b9, b10, b11, b12, b13, x, b15⟩, a9, a10, a11, a12, a13, a14, a15⟩, hi⟩⟩
  | _ => ⟨fun fr x => Fr.casesOn fr fun lo hi => P16.casesOn lo fun a0 a1 a2 a3 a4 a5 a6 a7 a8 a9 a10 a11 a12 a13 a14 a15 => P16.casesOn a8 fun b0 b1 b2 b3 b4 b5 b6 b7 b8 b9 b10 b11 b12 b13 b14 _ => ⟨⟨a0, a1, a2, a3, a4, a5, a6, a7, ⟨b0, b1, b2, b3, b4, b5, b6, b7, b8, b9, b10, b11, b12, b13, b14, x⟩, a9, a10, a11, a12, a13, a14, a15⟩, hi⟩⟩
def rd9_ (j : Nat) : EvC := match j with
  | 0 => ⟨fun fr => fr.lo.p9.p0⟩
  | 1 => ⟨fun fr => fr.lo.p9.p1⟩
  | 2 => ⟨fun fr => fr.lo.p9.p2⟩
  | 3 => ⟨fun fr => fr.lo.p9.p3⟩
  | 4 => ⟨fun fr => fr.lo.p9.p4⟩
  | 5 => ⟨fun fr => fr.lo.p9.p5⟩
  | 6 => ⟨fun fr => fr.lo.p9.p6⟩
  | 7 => ⟨fun fr => fr.lo.p9.p7⟩
  | 8 => ⟨fun fr => fr.lo.p9.p8⟩
  | 9 => ⟨fun fr => fr.lo.p9.p9⟩
  | 10 => ⟨fun fr => fr.lo.p9.p10⟩
  | 11 => ⟨fun fr => fr.lo.p9.p11⟩
  | 12 => ⟨fun fr => fr.lo.p9.p12⟩
  | 13 => ⟨fun fr => fr.lo.p9.p13⟩
  | 14 => ⟨fun fr => fr.lo.p9.p14⟩
  | _ => ⟨fun fr => fr.lo.p9.p15⟩
def wr9_ (j : Nat) : Wr := match j with
  | 0 => ⟨fun fr x => Fr.casesOn fr fun lo hi => P16.casesOn lo fun a0 a1 a2 a3 a4 a5 a6 a7 a8 a9 a10 a11 a12 a13 a14 a15 => P16.casesOn a9 fun _ b1 b2 b3 b4 b5 b6 b7 b8 b9 b10 b11 b12 b13 b14 b15 => ⟨⟨a0, a1, a2, a3, a4, a5, a6, a7, a8, ⟨x, b1, b2, b3, b4, b5, b6, b7, b8, b9, b10, b11, b12, b13, b14, b15⟩, a10, a11, a12, a13, a14, a15⟩, hi⟩⟩
  | 1 => ⟨fun fr x => Fr.casesOn fr fun lo hi => P16.casesOn lo fun a0 a1 a2 a3 a4 a5 a6 a7 a8 a9 a10 a11 a12 a13 a14 a15 => P16.casesOn a9 fun b0 _ b2 b3 b4 b5 b6 b7 b8 b9 b10 b11 b12 b13 b14 b15 => ⟨⟨a0, a1, a2, a3, a4, a5, a6, a7, a8, ⟨b0, x, b2, b3, b4, b5, b6, b7, b8, b9, b10, b11, b12, b13, b14, b15⟩, a10, a11, a12, a13, a14, a15⟩, hi⟩⟩
  | 2 => ⟨fun fr x => Fr.casesOn fr fun lo hi => P16.casesOn lo fun a0 a1 a2 a3 a4 a5 a6 a7 a8 a9 a10 a11 a12 a13 a14 a15 => P16.casesOn a9 fun b0 b1 _ b3 b4 b5 b6 b7 b8 b9 b10 b11 b12 b13 b14 b15 => ⟨⟨a0, a1, a2, a3, a4, a5, a6, a7, a8, ⟨b0, b1, x, b3, b4, b5, b6, b7, b8, b9, b10, b11, b12, b13, b14, b15⟩, a10, a11, a12, a13, a14, a15⟩, hi⟩⟩
  | 3 => ⟨fun fr x => Fr.casesOn fr fun lo hi => P16.casesOn lo fun a0 a1 a2 a3 a4 a5 a6 a7 a8 a9 a10 a11 a12 a13 a14 a15 => P16.casesOn a9 fun b0 b1 b2 _ b4 b5 b6 b7 b8 b9 b10 b11 b12 b13 b14 b15 => ⟨⟨a0, a1, a2, a3, a4, a5, a6, a7, a8, ⟨b0, b1, b2, x, b4, b5, b6, b7, b8, b9, b10, b11, b12, b13, b14, b15⟩, a10, a11, a12, a13, a14, a15⟩, hi⟩⟩
  | 4 => ⟨fun fr x => Fr.casesOn fr fun lo hi => P16.casesOn lo fun a0 a1 a2 a3 a4 a5 a6 a7 a8 a9 a10 a11 a12 a13 a14 a15 => P16.casesOn a9 fun b0 b1 b2 b3 _ b5 b6 b7 b8 b9 b10 b11 b12 b13 b14 b15 => ⟨⟨a0, a1, a2, a3, a4, a5, a6, a7, a8, ⟨b0, b1, b2, b3, x, b5, b6, b7, b8, b9, b10, b11, b12, b13, b14, b15⟩, a10, a11, a12, a13, a14, a15⟩, hi⟩⟩
  | 5 => ⟨fun fr x => Fr.casesOn fr fun lo hi => P16.casesOn lo fun a0 a1 a2 a3 a4 a5 a6 a7 a8 a9 a10 a11 a12 a13 a14 a15 => P16.casesOn a9 fun b0 b1 b2 b3 b4 _ b6 b7 b8 b9 b10 b11 b12 b13 b14 b15 => ⟨⟨a0, a1, a2, a3, a4, a5, a6, a7, a8, ⟨b0, b1, b2, b3, b4, x, b6, b7, b8, b9, b10, b11, b12, b13, b14, b15⟩, a10, a11, a12, a13, a14, a15⟩, hi⟩⟩
  | 6 => ⟨fun fr x => Fr.casesOn fr fun lo hi => P16.casesOn lo fun a0 a1 a2 a3 a4 a5 a6 a7 a8 a9 a10 a11 a12 a13 a14 a15 => P16.casesOn a9 fun b0 b1 b2 b3 b4 b5 _ b7 b8 b9 b10 b11 b12 b13 b14 b15 => ⟨⟨a0, a1, a2, a3, a4, a5, a6, a7, a8, ⟨b0, b1, b2, b3, b4, b5, x, b7, b8, b9, b10, b11, b12, b13, b14, b15⟩, a10, a11, a12, a13, a14, a15⟩, hi⟩⟩
  | 7 => ⟨fun fr x => Fr.casesOn fr fun lo hi => P16.casesOn lo fun a0 a1 a2 a3 a4 a5 a6 a7 a8 a9 a10 a11 a12 a13 a14 a15 => P16.casesOn a9 fun b0 b1 b2 b3 b4 b5 b6 _ b8 b9 b10 b11 b12 b13 b14 b15 => ⟨⟨a0, a1, a2, a3, a4, a5, a6, a7, a8, ⟨b0, b1, b2, b3, b4, b5, b6, x, b8, b9, b10, b11, b12, b13, b14, b15⟩, a10, a11, a12, a13, a14, a15⟩, hi⟩⟩
  | 8 => ⟨fun fr x => Fr.casesOn fr fun lo hi => P16.casesOn lo fun a0 a1 a2 a3 a4 a5 a6 a7 a8 a9 a10 a11 a12 a13 a14 a15 => P16.casesOn a9 fun b0 b1 b2 b3 b4 b5 b6 b7 _ b9 b10 b11 b12 b13 b14 b15 => ⟨⟨a0, a1, a2, a3, a4, a5, a6, a7, a8, ⟨b0, b1, b2, b3, b4, b5, b6, b7, x, b9, b10, b11, b12, b13, b14, b15⟩, a10, a11, a12, a13, a14, a15⟩, hi⟩⟩
  | 9 => ⟨fun fr x => Fr.casesOn fr fun lo hi => P16.casesOn lo fun a0 a1 a2 a3 a4 a5 a6 a7 a8 a9 a10 a11 a12 a13 a14 a15 => P16.casesOn a9 fun b0 b1 b2 b3 b4 b5 b6 b7 b8 _ b10 b11 b12 b13 b14 b15 => ⟨⟨a0, a1, a2, a3, a4, a5, a6, a7, a8, ⟨b0, b1, b2, b3, b4, b5, b6, b7, b8, x, b10, b11, b12, b13, b14, b15⟩, a10, a11, a12, a13, a14, a15⟩, hi⟩⟩
  | 10 => ⟨fun fr x => Fr.casesOn fr fun lo hi => P16.casesOn lo fun a0 a1 a2 a3 a4 a5 a6 a7 a8 a9 a10 a11 a12 a13 a14 a15 => P16.casesOn a9 fun b0 b1 b2 b3 b4 b5 b6 b7 b8 b9 _ b11 b12 b13 b14 b15 => ⟨⟨a0, a1, a2, a3, a4, a5, a6, a7, a8, ⟨b0, b1, b2, b3, b4, b5, b6, b7, b8, b9, x, b11, b12, b13, b14, b15⟩, a10, a11, a12, a13, a14, a15⟩, hi⟩⟩
  | 11 => ⟨fun fr x => Fr.casesOn fr fun lo hi => P16.casesOn lo fun a0 a1 a2 a3 a4 a5 a6 a7 a8 a9 a10 a11 a12 a13 a14 a15 => P16.casesOn a9 fun b0 b1 b2 b3 b4 b5 b6 b7 b8 b9 b10 _ b12 b13 b14 b15 => ⟨⟨a0, a1, a2, a3, a4, a5, a6, a7, a8, ⟨b0, b1, b2, b3, b4, b5, b6, b7, b8, b9, b10, x, b12, b13, b14, b15⟩, a10, a11, a12, a13, a14, a15⟩, hi⟩⟩
  | 12 => ⟨fun fr x => Fr.casesOn fr fun lo hi => P16.casesOn lo fun a0 a1 a2 a3 a4 a5 a6 a7 a8 a9 a10 a11 a12 a13 a14 a15 => P16.casesOn a9 fun b0 b1 b2 b3 b4 b5 b6 b7 b8 b9 b10 b11 _ b13 b14 b15 => ⟨⟨a0, a1, a2, a3, a4, a5, a6, a7, a8, ⟨b0, b1, b2, b3, b4, b5, b6, b7, b8, b9, b10, b11, x, b13, b14, b15⟩, a10, a11, a12, a13, a14, a15⟩, hi⟩⟩
  | 13 => ⟨fun fr x => Fr.casesOn fr fun lo hi => P16.casesOn lo fun a0 a1 a2 a3 a4 a5 a6 a7 a8 a9 a10 a11 a12 a13 a14 a15 => P16.casesOn a9 fun b0 b1 b2 b3 b4 b5 b6 b7 b8 b9 b10 b11 b12 _ b14 b15 => ⟨⟨a0, a1, a2, a3, a4, a5, a6, a7, a8, ⟨b0, b1, b2, b3, b4, b5, b6, b7, b8, b9, b10, b11, b12, x, b14, b15⟩, a10, a11, a12, a13, a14, a15⟩, hi⟩⟩
  | 14 => ⟨fun fr x => Fr.casesOn fr fun lo hi => P16.casesOn lo fun a0 a1 a2 a3 a4 a5 a6 a7 a8 a9 a10 a11 a12 a13 a14 a15 => P16.casesOn a9 fun b0 b1 b2 b3 b4 b5 b6 b7 b8 b9 b10 b11 b12 b13 _ b15 => ⟨⟨a0, a1, a2, a3, a4, a5, a6, a7, a8, ⟨b0, b1, b2, b3, b4, b5, b6, b7, b8, b9, b10, b11, b12, b13, x, b15⟩, a10, a11, a12, a13, a14, a15⟩, hi⟩⟩
  | _ => ⟨fun fr x => Fr.casesOn fr fun lo hi => P16.casesOn lo fun a0 a1 a2 a3 a4 a5 a6 a7 a8 a9 a10 a11 a12 a13 a14 a15 => P16.casesOn a9 fun b0 b1 b2 b3 b4 b5 b6 b7 b8 b9 b10 b11 b12 b13 b14 _ => ⟨⟨a0, a1, a2, a3, a4, a5, a6, a7, a8, ⟨b0, b1, b2, b3, b4, b5, b6, b7, b8, b9, b10, b11, b12, b13, b14, x⟩, a10, a11, a12, a13, a14, a15⟩, hi⟩⟩
def rd10_ (j : Nat) : EvC := match j with
  | 0 => ⟨fun fr => fr.lo.p10.p0⟩
  | 1 => ⟨fun fr => fr.lo.p10.p1⟩
  | 2 => ⟨fun fr => fr.lo.p10.p2⟩
  | 3 => ⟨fun fr => fr.lo.p10.p3⟩
  | 4 => ⟨fun fr => fr.lo.p10.p4⟩
  | 5 => ⟨fun fr => fr.lo.p10.p5⟩
  | 6 => ⟨fun fr => fr.lo.p10.p6⟩
  | 7 => ⟨fun fr => fr.lo.p10.p7⟩
  | 8 => ⟨fun fr => fr.lo.p10.p8⟩
  | 9 => ⟨fun fr => fr.lo.p10.p9⟩
  | 10 => ⟨fun fr => fr.lo.p10.p10⟩
  | 11 => ⟨fun fr => fr.lo.p10.p11⟩
  | 12 => ⟨fun fr => fr.lo.p10.p12⟩
  | 13 => ⟨fun fr => fr.lo.p10.p13⟩
  | 14 => ⟨fun fr => fr.lo.p10.p14⟩
  | _ => ⟨fun fr => fr.lo.p10.p15⟩
def wr10_ (j : Nat) : Wr := match j with
  | 0 => ⟨fun fr x => Fr.casesOn fr fun lo hi => P16.casesOn lo fun a0 a1 a2 a3 a4 a5 a6 a7 a8 a9 a10 a11 a12 a13 a14 a15 => P16.casesOn a10 fun _ b1 b2 b3 b4 b5 b6 b7 b8 b9 b10 b11 b12 b13 b14 b15 => ⟨⟨a0, a1, a2, a3, a4, a5, a6, a7, a8, a9, ⟨x, b1, b2, b3, b4, b5, b6, b7, b8, b9, b10, b11, b12, b13, b14, b15⟩, a11, a12, a13, a14, a15⟩, hi⟩⟩
  | 1 => ⟨fun fr x => Fr.casesOn fr fun lo hi => P16.casesOn lo fun a0 a1 a2 a3 a4 a5 a6 a7 a8 a9 a10 a11 a12 a13 a14 a15 => P16.casesOn a10 fun b0 _ b2 b3 b4 b5 b6 b7 b8 b9 b10 b11 b12 b13 b14 b15 => ⟨⟨a0, a1, a2, a3, a4, a5, a6, a7, a8, a9, ⟨b0, x, b2, b3, b4, b5, b6, b7, b8, b9, b10, b11, b12, b13, b14, b15⟩, a11, a12, a13, a14, a15⟩, hi⟩⟩
  | 2 => ⟨fun fr x => Fr.casesOn fr fun lo hi => P16.casesOn lo fun a0 a1 a2 a3 a4 a5 a6 a7 a8 a9 a10 a11 a12 a13 a14 a15 => P16.casesOn a10 fun b0 b1 _ b3 b4 b5 b6 b7 b8 b9 b10 b11 b12 b13 b14 b15 => ⟨⟨a0, a1, a2, a3, a4, a5, a6, a7, a8, a9, ⟨b0, b1, x, b3, b4, b5, b6, b7, b8, b9, b10, b11, b12, b13, b14, b15⟩, a11, a12, a13, a14, a15⟩, hi⟩⟩
  | 3 => ⟨fun fr x => Fr.casesOn fr fun lo hi => P16.casesOn lo fun a0 a1 a2 a3 a4 a5 a6 a7 a8 a9 a10 a11 a12 a13 a14 a15 => P16.casesOn a10 fun b0 b1 b2 _ b4 b5 b6 b7 b8 b9 b10 b11 b12 b13 b14 b15 => ⟨⟨a0, a1, a2, a3, a4, a5, a6, a7, a8, a9, ⟨b0, b1, b2, x, b4, b5, b6, b7, b8, b9, b10, b11, b12, b13, b14, b15⟩, a11, a12, a13, a14, a15⟩, hi⟩⟩
  | 4 => ⟨fun fr x => Fr.casesOn fr fun lo hi => P16.casesOn lo fun a0 a1 a2 a3 a4 a5 a6 a7 a8 a9 a10 a11 a12 a13 a14 a15 => P16.casesOn a10 fun b0 b1 b2 b3 _ b5 b6 b7 b8 b9 b10 b11 b12 b13 b14 b15 => ⟨⟨a0, a1, a2, a3, a4, a5, a6, a7, a8, a9, ⟨b0, b1, b2, b3, x, b5, b6, b7, b8, b9, b10, b11, b12, b13, b14, b15⟩, a11, a12, a13, a14, a15⟩, hi⟩⟩
  | 5 => ⟨fun fr x => Fr.casesOn fr fun lo hi => P16.casesOn lo fun a0 a1 a2 a3 a4 a5 a6 a7 a8 a9 a10 a11 a12 a13 a14 a15 => P16.casesOn a10 fun b0 b1 b2 b3 b4 _ b6 b7 b8 b9 b10 b11 b12 b13 b14 b15 => ⟨⟨a0, a1, a2, a3, a4, a5, a6, a7, a8, a9, ⟨b0, b1, b2, b3, b4, x, b6, b7, b8, b9, b10, b11, b12, b13, b14, b15⟩, a11, a12, a13, a14, a15⟩, hi⟩⟩
  | 6 => ⟨fun fr x => Fr.casesOn fr fun lo hi => P16.casesOn lo fun a0 a1 a2 a3 a4 a5 a6 a7 a8 a9 a10 a11 a12 a13 a14 a15 => P16.casesOn a10 fun b0 b1 b2 b3 b4 b5 _ b7 b8 b9 b10 b11 b12 b13 b14 b15 => ⟨⟨a0, a1, a2, a3, a4, a5, a6, a7, a8, a9, ⟨b0, b1, b2, b3, b4, b5, x, b7, b8, b9, b10, b11, b12, b13, b14, b15⟩, a11, a12, a13, a14, a15⟩, hi⟩⟩
  | 7 => ⟨fun fr x => Fr.casesOn fr fun lo hi => P16.casesOn lo fun a0 a1 a2 a3 a4 a5 a6 a7 a8 a9 a10 a11 a12 a13 a14 a15 => P16.casesOn a10 fun b0 b1 b2 b3 b4 b5 b6 _ b8 b9 b10 b11 b12 b13 b14 b15 => ⟨⟨a0, a1, a2, a3, a4, a5, a6, a7, a8, a9, ⟨b0, b1, b2, b3, b4, b5, b6, x, b8, b9, b10, b11, b12, b13, b14, b15⟩, a11, a12, a13, a14, a15⟩, hi⟩⟩
  | 8 => ⟨fun fr x => Fr.casesOn fr fun lo hi => P16.casesOn lo fun a0 a1 a2 a3 a4 a5 a6 a7 a8 a9 a10 a11 a12 a13 a14 a15 => P16.casesOn a10 fun b0 b1 b2 b3 b4 b5 b6 b7 _ b9 b10 b11 b12 b13 b14 b15 => ⟨⟨a0, a1, a2, a3, a4, a5, a6, a7, a8, a9, ⟨b0, b1, b2, b3, b4, b5, b6, b7, x, b9, b10, b11, b12, b13, b14, b15⟩, a11, a12, a13, a14, a15⟩, hi⟩⟩
  | 9 => ⟨fun fr x => Fr.casesOn fr fun lo hi => P16.casesOn lo fun a0 a1 a2 a3 a4 a5 a6 a7 a8 a9 a10 a11 a12 a13 a14 a15 => P16.casesOn a10 fun b0 b1 b2 b3 b4 b5 b6 b7 b8 _ b10 b11 b12 b13 b14 b15 => ⟨⟨a0, a1, a2, a3, a4, a5, a6, a7, a8, a9, ⟨b0, b1, b2, b3, b4, b5, b6, b7, b8, x, b10, b11, b12, b13, b14, b15⟩, a11, a12, a13, a14, a15⟩, hi⟩⟩
  | 10 => ⟨fun fr x => Fr.casesOn fr fun lo hi => P16.casesOn lo fun a0 a1 a2 a3 a4 a5 a6 a7 a8 a9 a10 a11 a12 a13 a14 a15 => P16.casesOn a10 fun b0 b1 b2 b3 b4 b5 b6 b7 b8 b9 _ b11 b12 b13 b14 b15 => ⟨⟨a0, a1, a2, a3, a4, a5, a6, a7, a8, a9, ⟨b0, b1, b2, b3, b4, b5, b6, b7, b8, b9, x, b11, b12, b13, b14, b15⟩, a11, a12, a13, a14, a15⟩, hi⟩⟩
  | 11 => ⟨fun fr x => Fr.casesOn fr fun lo hi => P16.casesOn lo fun a0 a1 a2 a3 a4 a5 a6 a7 a8 a9 a10 a11 a12 a13 a14 a15 => P16.casesOn a10 fun b0 b1 b2 b3 b4 b5 b6 b7 b8 b9 b10 _ b12 b13 b14 b15 => ⟨⟨a0, a1, a2, a3, a4, a5, a6, a7, a8, a9, ⟨b0, b1, b2, b3, b4, b5, b6, b7, b8, b9, b10, x, b12, b13, b14, b15⟩, a11, a12, a13, a14, a15⟩, hi⟩⟩
  | 12 => ⟨fun fr x => Fr.casesOn fr fun lo hi => P16.casesOn lo fun a0 a1 a2 a3 a4 a5 a6 a7 a8 a9 a10 a11 a12 a13 a14 a15 => P16.casesOn a10 fun b0 b1 b2 b3 b4 b5 b6 b7 b8 b9 b10 b11 _ b13 b14 b15 => ⟨⟨a0, a1, a2, a3, a4, a5, a6, a7, a8, a9, ⟨b0, b1, b2, b3, b4, b5, b6, b7, b8, b9, b10, b11, x, b13, b14, b15⟩, a11, a12, a13, a14, a15⟩, hi⟩⟩
  | 13 => ⟨fun fr x => Fr.casesOn fr fun lo hi => P16.casesOn lo fun a0 a1 a2 a3 a4 a5 a6 a7 a8 a9 a10 a11 a12 a13 a14 a15 => P16.casesOn a10 fun b0 b1 b2 b3 b4 b5 b6 b7 b8 b9 b10 b11 b12 _ b14 b15 => ⟨⟨a0, a1, a2, a3, a4, a5, a6, a7, a8, a9, ⟨b0, b1, b2, b3, b4, b5, b6, b7, b8, b9, b10, b11, b12, x, b14, b15⟩, a11, a12, a13, a14, a15⟩, hi⟩⟩
  | 14 => ⟨fun fr x => Fr.casesOn fr fun lo hi => P16.casesOn lo fun a0 a1 a2 a3 a4 a5 a6 a7 a8 a9 a10 a11 a12 a13 a14 a15 => P16.casesOn a10 fun b0 b1 b2 b3 b4 b5 b6 b7 b8 b9 b10 b11 b12 b13 _ b15 => ⟨⟨a0, a1, a2, a3, a4, a5, a6, a7, a8, a9, ⟨b0, b1, b2, b3, b4, b5, b6, b7, b8, b9, b10, b11, b12, b13, x, b15⟩, a11, a12, a13, a14, a15⟩, hi⟩⟩
  | _ => ⟨fun fr x => Fr.casesOn fr fun lo hi => P16.casesOn lo fun a0 a1 a2 a3 a4 a5 a6 a7 a8 a9 a10 a11 a12 a13 a14 a15 => P16.casesOn a10 fun b0 b1 b2 b3 b4 b5 b6 b7 b8 b9 b10 b11 b12 b13 b14 _ => ⟨⟨a0, a1, a2, a3, a4, a5, a6, a7, a8, a9, ⟨b0, b1, b2, b3, b4, b5, b6, b7, b8, b9, b10, b11, b12, b13, b14, x⟩, a11, a12, a13, a14, a15⟩, hi⟩⟩
def rd11_ (j : Nat) : EvC := match j with
  | 0 => ⟨fun fr => fr.lo.p11.p0⟩
  | 1 => ⟨fun fr => fr.lo.p11.p1⟩
  | 2 => ⟨fun fr => fr.lo.p11.p2⟩
  | 3 => ⟨fun fr => fr.lo.p11.p3⟩
  | 4 => ⟨fun fr => fr.lo.p11.p4⟩
  | 5 => ⟨fun fr => fr.lo.p11.p5⟩
  | 6 => ⟨fun fr => fr.lo.p11.p6⟩
  | 7 => ⟨fun fr => fr.lo.p11.p7⟩
  | 8 => ⟨fun fr => fr.lo.p11.p8⟩
  | 9 => ⟨fun fr => fr.lo.p11.p9⟩
  | 10 => ⟨fun fr => fr.lo.p11.p10⟩
  | 11 => ⟨fun fr => fr.lo.p11.p11⟩
  | 12 => ⟨fun fr => fr.lo.p11.p12⟩
  | 13 => ⟨fun fr => fr.lo.p11.p13⟩
  | 14 => ⟨fun fr => fr.lo.p11.p14⟩
  | _ => ⟨fun fr => fr.lo.p11.p15⟩
def wr11_ (j : Nat) : Wr := match j with
  | 0 => ⟨fun fr x => Fr.casesOn fr fun lo hi => P16.casesOn lo fun a0 a1 a2 a3 a4 a5 a6 a7 a8 a9 a10 a11 a12 a13 a14 a15 => P16.casesOn a11 fun _ b1 b2 b3 b4 b5 b6 b7 b8 b9 b10 b11 b12 b13 b14 b15 => ⟨⟨a0, a1, a2, a3, a4, a5, a6, a7, a8, a9, a10, ⟨x, b1, b2, b3, b4, b5, b6, b7, b8, b9, b10, b11, b12, b13, b14, b15⟩, a12, a13, a14, a15⟩, hi⟩⟩
  | 1 => ⟨fun fr x => Fr.casesOn fr fun lo hi => P16.casesOn lo fun a0 a1 a2 a3 a4 a5 a6 a7 a8 a9 a10 a11 a12 a13 a14 a15 => P16.casesOn a11 fun b0 _ b2 b3 b4 b5 b6 b7 b8 b9 b10 b11 b12 b13 b14 b15 => ⟨⟨a0, a1, a2, a3, a4, a5, a6, a7, a8, a9, a10, ⟨b0, x, b2, b3, b4, b5, b6, b7, b8, b9, b10, b11, b12, b13, b14, b15⟩, a12, a13, a14, a15⟩, hi⟩⟩
  | 2 => ⟨fun fr x => Fr.casesOn fr fun lo hi => P16.casesOn lo fun a0 a1 a2 a3 a4 a5 a6 a7 a8 a9 a10 a11 a12 a13 a14 a15 => P16.casesOn a11 fun b0 b1 _ b3 b4 b5 b6 b7 b8 b9 b10 b11 b12 b13 b14 b15 => ⟨⟨a0, a1, a2, a3, a4, a5, a6, a7, a8, a9, a10, ⟨b0, b1, x, b3, b4, b5, b6, b7, b8, b9, b10, b11, b12, b13, b14, b15⟩, a12, a13, a14, a15⟩, hi⟩⟩
  | 3 => ⟨fun fr x => Fr.casesOn fr fun lo hi => P16.casesOn lo fun a0 a1 a2 a3 a4 a5 a6 a7 a8 a9 a10 a11 a12 a13 a14 a15 => P16.casesOn a11 fun b0 b1 b2 _ b4 b5 b6 b7 b8 b9 b10 b11 b12 b13 b14 b15 => ⟨⟨a0, a1, a2, a3, a4, a5, a6, a7, a8, a9, a10, ⟨b0, b1, b2, x, b4, b5, b6, b7, b8, b9, b10, b11, b12, b13, b14, b15⟩, a12, a13, a14, a15⟩, hi⟩⟩
  | 4 => ⟨fun fr x => Fr.casesOn fr fun lo hi => P16.casesOn lo fun a0 a1 a2 a3 a4 a5 a6 a7 a8 a9 a10 a11 a12 a13 a14 a15 => P16.casesOn a11 fun b0 b1 b2 b3 _ b5 b6 b7 b8 b9 b10 b11 b12 b13 b14 b15 => ⟨⟨a0, a1, a2, a3, a4, a5, a6, a7, a8, a9, a10, ⟨b0, b1, b2, b3, x, b5, b6, b7, b8, b9, b10, b11, b12, b13, b14, b15⟩, a12, a13, a14, a15⟩, hi⟩⟩
  | 5 => ⟨fun fr x => Fr.casesOn fr fun lo hi => P16.casesOn lo fun a0 a1 a2 a3 a4 a5 a6 a7 a8 a9 a10 a11 a12 a13 a14 a15 => P16.casesOn a11 fun b0 b1 b2 b3 b4 _ b6 b7 b8 b9 b10 b11 b12 b13 b14 b15 => ⟨⟨a0, a1, a2, a3, a4, a5, a6, a7, a8, a9, a10, ⟨b0, b1, b2, b3, b4, x, b6, b7, b8, b9, b10, b11, b12, b13, b14, b15⟩, a12, a13, a14, a15⟩, hi⟩⟩
  | 6 => ⟨fun fr x => Fr.casesOn fr fun lo hi => P16.casesOn lo fun a0 a1 a2 a3 a4 a5 a6 a7 a8 a9 a10 a11 a12 a13 a14 a15 => P16.casesOn a11 fun b0 b1 b2 b3 b4 b5 _ b7 b8 b9 b10 b11 b12 b13 b14 b15 => ⟨⟨a0, a1, a2, a3, a4, a5, a6, a7, a8, a9, a10, ⟨b0, b1, b2, b3, b4, b5, x, b7, b8, b9, b10, b11, b12, b13, b14, b15⟩, a12, a13, a14, a15⟩, hi⟩⟩
  | 7 => ⟨fun fr x => Fr.casesOn fr fun lo hi => P16.casesOn lo fun a0 a1 a2 a3 a4 a5 a6 a7 a8 a9 a10 a11 a12 a13 a14 a15 => P16.casesOn a11 fun b0 b1 b2 b3 b4 b5 b6 _ b8 b9 b10 b11 b12 b13 b14 b15 => ⟨⟨a0, a1, a2, a3, a4, a5, a6, a7, a8, a9, a10, ⟨b0, b1, b2, b3, b4, b5, b6, x, b8, b9, b10, b11, b12, b13, b14, b15⟩, a12, a13, a14, a15⟩, hi⟩⟩
  | 8 => ⟨fun fr x => Fr.casesOn fr fun lo hi => P16.casesOn lo fun a0 a1 a2 a3 a4 a5 a6 a7 a8 a9 a10 a11 a12 a13 a14 a15 => P16.casesOn a11 fun b0 b1 b2 b3 b4 b5 b6 b7 _ b9 b10 b11 b12 b13 b14 b15 => ⟨⟨a0, a1, a2, a3, a4, a5, a6, a7, a8, a9, a10, ⟨b0, b1, b2, b3, b4, b5, b6, b7, x, b9, b10, b11, b12, b13, b14, b15⟩, a12, a13, a14, a15⟩, hi⟩⟩
  | 9 => ⟨fun fr x => Fr.casesOn fr fun lo hi => P16.casesOn lo fun a0 a1 a2 a3 a4 a5 a6 a7 a8 a9 a10 a11 a12 a13 a14 a15 => P16.casesOn a11 fun b0 b1 b2 b3 b4 b5 b6 b7 b8 _ b10 b11 b12 b13 b14 b15 => ⟨⟨a0, a1, a2, a3, a4, a5, a6, a7, a8, a9, a10, ⟨b0, b1, b2, b3, b4, b5, b6, b7, b8, x, b10, b11, b12, b13, b14, b15⟩, a12, a13, a14, a15⟩, hi⟩⟩
  | 10 => ⟨fun fr x => Fr.casesOn fr fun lo hi => P16.casesOn lo fun a0 a1 a2 a3 a4 a5 a6 a7 a8 a9 a10 a11 a12 a13 a14 a15 => P16.casesOn a11 fun b0 b1 b2 b3 b4 b5 b6 b7 b8 b9 _ b11 b12 b13 b14 b15 => ⟨⟨a0, a1, a2, a3, a4, a5, a6, a7, a8, a9, a10, ⟨b0, b1, b2, b3, b4, b5, b6, b7, b8, b9, x, b11, b12, b13, b14, b15⟩, a12, a13, a14, a15⟩, hi⟩⟩
  | 11 => ⟨fun fr x => Fr.casesOn fr fun lo hi => P16.casesOn lo fun a0 a1 a2 a3 a4 a5 a6 a7 a8 a9 a10 a11 a12 a13 a14 a15 => P16.casesOn a11 fun b0 b1 b2 b3 b4 b5 b6 b7 b8 b9 b10 _ b12 b13 b14 b15 => ⟨⟨a0, a1, a2, a3, a4, a5, a6, a7, a8, a9, a10, ⟨b0, b1, b2, b3, b4, b5, b6, b7, b8, b9, b10, x, b12, b13, b14, b15⟩, a12, a13, a14, a15⟩, hi⟩⟩
  | 12 => ⟨fun fr x => Fr.casesOn fr fun lo hi => P16.casesOn lo fun a0 a1 a2 a3 a4 a5 a6 a7 a8 a9 a10 a11 a12 a13 a14 a15 => P16.casesOn a11 fun b0 b1 b2 b3 b4 b5 b6 b7 b8 b9 b10 b11 _ b13 b14 b15 => ⟨⟨a0, a1, a2, a3, a4, a5, a6, a7, a8, a9, a10, ⟨b0, b1, b2, b3, b4, b5, b6, b7, b8, b9, b10, b11, x, b13, b14, b15⟩, a12, a13, a14, a15⟩, hi⟩⟩
  | 13 => ⟨fun fr x => Fr.casesOn fr fun lo hi => P16.casesOn lo fun a0 a1 a2 a3 a4 a5 a6 a7 a8 a9 a10 a11 a12 a13 a14 a15 => P16.casesOn a11 fun b0 b1 b2 b3 b4 b5 b6 b7 b8 b9 b10 b11 b12 _ b14 b15 => ⟨⟨a0, a1, a2, a3, a4, a5, a6, a7, a8, a9, a10, ⟨b0, b1, b2, b3, b4, b5, b6, b7, b8, b9, b10, b11, b12, x, b14, b15⟩, a12, a13, a14, a15⟩, hi⟩⟩
  | 14 => ⟨fun fr x => Fr.casesOn fr fun lo hi => P16.casesOn lo fun a0 a1 a2 a3 a4 a5 a6 a7 a8 a9 a10 a11 a12 a13 a14 a15 => P16.casesOn a11 fun b0 b1 b2 b3 b4 b5 b6 b7 b8 b9 b10 b11 b12 b13 _ b15 => ⟨⟨a0, a1, a2, a3, a4, a5, a6, a7, a8, a9, a10, ⟨b0, b1, b2, b3, b4, b5, b6, b7, b8, b9, b10, b11, b12, b13, x, b15⟩, a12, a13, a14, a15⟩, hi⟩⟩
  | _ => ⟨fun fr x => Fr.casesOn fr fun lo hi => P16.casesOn lo fun a0 a1 a2 a3 a4 a5 a6 a7 a8 a9 a10 a11 a12 a13 a14 a15 => P16.casesOn a11 fun b0 b1 b2 b3 b4 b5 b6 b7 b8 b9 b10 b11 b12 b13 b14 _ => ⟨⟨a0, a1, a2, a3, a4, a5, a6, a7, a8, a9, a10, ⟨b0, b1, b2, b3, b4, b5, b6, b7, b8, b9, b10, b11, b12, b13, b14, x⟩, a12, a13, a14, a15⟩, hi⟩⟩
def rd12_ (j : Nat) : EvC := match j with
  | 0 => ⟨fun fr => fr.lo.p12.p0⟩
  | 1 => ⟨fun fr => fr.lo.p12.p1⟩
  | 2 => ⟨fun fr => fr.lo.p12.p2⟩
  | 3 => ⟨fun fr => fr.lo.p12.p3⟩
  | 4 => ⟨fun fr => fr.lo.p12.p4⟩
  | 5 => ⟨fun fr => fr.lo.p12.p5⟩
  | 6 => ⟨fun fr => fr.lo.p12.p6⟩
  | 7 => ⟨fun fr => fr.lo.p12.p7⟩
  | 8 => ⟨fun fr => fr.lo.p12.p8⟩
  | 9 => ⟨fun fr => fr.lo.p12.p9⟩
  | 10 => ⟨fun fr => fr.lo.p12.p10⟩
  | 11 => ⟨fun fr => fr.lo.p12.p11⟩
  | 12 => ⟨fun fr => fr.lo.p12.p12⟩
  | 13 => ⟨fun fr => fr.lo.p12.p13⟩
  | 14 => ⟨fun fr => fr.lo.p12.p14⟩
  | _ => ⟨fun fr => fr.lo.p12.p15⟩
def wr12_ (j : Nat) : Wr := match j with
  | 0 => ⟨fun fr x => Fr.casesOn fr fun lo hi => P16.casesOn lo fun a0 a1 a2 a3 a4 a5 a6 a7 a8 a9 a10 a11 a12 a13 a14 a15 => P16.casesOn a12 fun _ b1 b2 b3 b4 b5 b6 b7 b8 b9 b10 b11 b12 b13 b14 b15 => ⟨⟨a0, a1, a2, a3, a4, a5, a6, a7, a8, a9, a10, a11, ⟨x, b1, b2, b3, b4, b5, b6, b7, b8, b9, b10, b11, b12, b13, b14, b15⟩, a13, a14, a15⟩, hi⟩⟩
  | 1 => ⟨fun fr x => Fr.casesOn fr fun lo hi => P16.casesOn lo fun a0 a1 a2 a3 a4 a5 a6 a7 a8 a9 a10 a11 a12 a13 a14 a15 => P16.casesOn a12 fun b0 _ b2 b3 b4 b5 b6 b7 b8 b9 b10 b11 b12 b13 b14 b15 => ⟨⟨a0, a1, a2, a3, a4, a5, a6, a7, a8, a9, a10, a11, ⟨b0, x, b2, b3, b4, b5, b6, b7, b8, b9, b10, b11, b12, b13, b14, b15⟩, a13, a14, a15⟩, hi⟩⟩
  | 2 => ⟨fun fr x => Fr.casesOn fr fun lo hi => P16.casesOn lo fun a0 a1 a2 a3 a4 a5 a6 a7 a8 a9 a10 a11 a12 a13 a14 a15 => P16.casesOn a12 fun b0 b1 _ b3 b4 b5 b6 b7 b8 b9 b10 b11 b12 b13 b14 b15 => ⟨⟨a0, a1, a2, a3, a4, a5, a6, a7, a8, a9, a10, a11, ⟨b0, b1, x, b3, b4, b5, b6, b7, b8, b9, b10, b11, b12, b13, b14, b15⟩, a13, a14, a15⟩, hi⟩⟩
  | 3 => ⟨fun fr x => Fr.casesOn fr fun lo hi => P16.casesOn lo fun a0 a1 a2 a3 a4 a5 a6 a7 a8 a9 a10 a11 a12 a13 a14 a15 => P16.casesOn a12 fun b0 b1 b2 _ b4 b5 b6 b7 b8 b9 b10 b11 b12 b13 b14 b15 => ⟨⟨a0, a1, a2, a3, a4, a5, a6, a7, a8, a9, a10, a11, ⟨b0, b1, b2, x, b4, b5, b6, b7, b8, b9, b10, b11, b12, b13, b14, b15⟩, a13, a14, a15⟩, hi⟩⟩
  | 4 => ⟨fun fr x => Fr.casesOn fr fun lo hi => P16.casesOn lo fun a0 a1 a2 a3 a4 a5 a6 a7 a8 a9 a10 a11 a12 a13 a14 a15 => P16.casesOn a12 fun b0 b1 b2 b3 _ b5 b6 b7 b8 b9 b10 b11 b12 b13 b14 b15 => ⟨⟨a0, a1, a2, a3, a4, a5, a6, a7, a8, a9, a10, a11, ⟨b0, b1, b2, b3, x, b5, b6, b7, b8, b9, b10, b11, b12, b13, b14, b15⟩, a13, a14, a15⟩, hi⟩⟩
  | 5 => ⟨fun fr x => Fr.casesOn fr fun lo hi => P16.casesOn lo fun a0 a1 a2 a3 a4 a5 a6 a7 a8 a9 a10 a11 a12 a13 a14 a15 => P16.casesOn a12 fun b0 b1 b2 b3 b4 _ b6 b7 b8 b9 b10 b11 b12 b13 b14 b15 => ⟨⟨a0, a1, a2, a3, a4, a5, a6, a7, a8, a9, a10, a11, ⟨b0, b1, b2, b3, b4, x, b6, b7, b8, b9, b10, b11, b12, b13, b14, b15⟩, a13, a14, a15⟩, hi⟩⟩
  | 6 => ⟨fun fr x => Fr.casesOn fr fun lo hi => P16.casesOn lo fun a0 a1 a2 a3 a4 a5 a6 a7 a8 a9 a10 a11 a12 a13 a14 a15 => P16.casesOn a12 fun b0 b1 b2 b3 b4 b5 _ b7 b8 b9 b10 b11 b12 b13 b14 b15 => ⟨⟨a0, a1, a2, a3, a4, a5, a6, a7, a8, a9, a10, a11, ⟨b0, b1, b2, b3, b4, b5, x, b7, b8, b9, b10, b11, b12, b13, b14, b15⟩, a13, a14, a15⟩, hi⟩⟩
  | 7 => ⟨fun fr x => Fr.casesOn fr fun lo hi => P16.casesOn lo fun a0 a1 a2 a3 a4 a5 a6 a7 a8 a9 a10 a11 a12 a13 a14 a15 => P16.casesOn a12 fun b0 b1 b2 b3 b4 b5 b6 _ b8 b9 b10 b11 b12 b13 b14 b15 => ⟨⟨a0, a1, a2, a3, a4, a5, a6, a7, a8, a9, a10, a11, ⟨b0, b1, b2, b3, b4, b5, b6, x, b8, b9, b10, b11, b12, b13, b14, b15⟩, a13, a14, a15⟩, hi⟩⟩
  | 8 => ⟨fun fr x => Fr.casesOn fr fun lo hi => P16.casesOn lo fun a0 a1 a2 a3 a4 a5 a6 a7 a8 a9 a10 a11 a12 a13 a14 a15 => P16.casesOn a12 fun b0 b1 b2 b3 b4 b5 b6 b7 _ b9 b10 b11 b12 b13 b14 b15 => ⟨⟨a0, a1, a2, a3, a4, a5, a6, a7, a8, a9, a10, a11, ⟨b0, b1, b2, b3, b4, b5, b6, b7, x, b9, b10, b11, b12, b13, b14, b15⟩, a13, a14, a15⟩, hi⟩⟩
  | 9 => ⟨fun fr x => Fr.casesOn fr fun lo hi => P16.casesOn lo fun a0 a1 a2 a3 a4 a5 a6 a7 a8 a9 a10 a11 a12 a13 a14 a15 => P16.casesOn a12 fun b0 b1 b2 b3 b4 b5 b6 b7 b8 _ b10 b11 b12 b13 b14 b15 => ⟨⟨a0, a1, a2, a3, a4, a5, a6, a7, a8, a9, a10, a11, ⟨b0, b1, b2, b3, b4, b5, b6, b7, b8, x, b10, b11, b12, b13, b14, b15⟩, a13, a14, a15⟩, hi⟩⟩
  | 10 => ⟨fun fr x => Fr.casesOn fr fun lo hi => P16.casesOn lo fun a0 a1 a2 a3 a4 a5 a6 a7 a8 a9 a10 a11 a12 a13 a14 a15 => P16.casesOn a12 fun b0 b1 b2 b3 b4 b5 b6 b7 b8 b9 _ b11 b12 b13 b14 b15 => ⟨⟨a0, a1, a2, a3, a4, a5, a6, a7, a8, a9, a10, a11, ⟨b0, b1, b2, b3, b4, b5, b6, b7, b8, b9, x, b11, b12, b13, b14, b15⟩, a13, a14, a15⟩, hi⟩⟩
  | 11 => ⟨fun fr x => Fr.casesOn fr fun lo hi => P16.casesOn lo fun a0 a1 a2 a3 a4 a5 a6 a7 a8 a9 a10 a11 a12 a13 a14 a15 => P16.casesOn a12 fun b0 b1 b2 b3 b4 b5 b6 b7 b8 b9 b10 _ b12 b13 b14 b15 => ⟨⟨a0, a1, a2, a3, a4, a5, a6, a7, a8, a9, a10, a11, ⟨b0, b1, b2, b3, b4, b5, b6, b7, b8, b9, b10, x, b12, b13, b14, b15⟩, a13, a14, a15⟩, hi⟩⟩
  | 12 => ⟨fun fr x => Fr.casesOn fr fun lo hi => P16.casesOn lo fun a0 a1 a2 a3 a4 a5 a6 a7 a8 a9 a10 a11 a12 a13 a14 a15 => P16.casesOn a12 fun b0 b1 b2 b3 b4 b5 b6 b7 b8 b9 b10 b11 _ b13 b14 b15 => ⟨⟨a0, a1, a2, a3, a4, a5, a6, a7, a8, a9, a10, a11, ⟨b0, b1, b2, b3, b4, b5, b6, b7, b8, b9, b10, b11, x, b13, b14, b15⟩, a13, a14, a15⟩, hi⟩⟩
  | 13 => ⟨fun fr x => Fr.casesOn fr fun lo hi => P16.casesOn lo fun a0 a1 a2 a3 a4 a5 a6 a7 a8 a9 a10 a11 a12 a13 a14 a15 => P16.casesOn a12 fun b0 b1 b2 b3 b4 b5 b6 b7 b8 b9 b10 b11 b12 _ b14 b15 => ⟨⟨a0, a1, a2, a3, a4, a5, a6, a7, a8, a9, a10, a11, ⟨b0, b1, b2, b3, b4, b5, b6, b7, b8, b9, b10, b11, b12, x, b14, b15⟩, a13, a14, a15⟩, hi⟩⟩
  | 14 => ⟨fun fr x => Fr.casesOn fr fun lo hi => P16.casesOn lo fun a0 a1 a2 a3 a4 a5 a6 a7 a8 a9 a10 a11 a12 a13 a14 a15 => P16.casesOn a12 fun b0 b1 b2 b3 b4 b5 b6 b7 b8 b9 b10 b11 b12 b13 _ b15 => ⟨⟨a0, a1, a2, a3, a4, a5, a6, a7, a8, a9, a10, a11, ⟨b0, b1, b2, b3, b4, b5, b6, b7, b8, b9, b10, b11, b12, b13, x, b15⟩, a13, a14, a15⟩, hi⟩⟩
  | _ => ⟨fun fr x => Fr.casesOn fr fun lo hi => P16.casesOn lo fun a0 a1 a2 a3 a4 a5 a6 a7 a8 a9 a10 a11 a12 a13 a14 a15 => P16.casesOn a12 fun b0 b1 b2 b3 b4 b5 b6 b7 b8 b9 b10 b11 b12 b13 b14 _ => ⟨⟨a0, a1, a2, a3, a4, a5, a6, a7, a8, a9, a10, a11, ⟨b0, b1, b2, b3, b4, b5, b6, b7, b8, b9, b10, b11, b12, b13, b14, x⟩, a13, a14, a15⟩, hi⟩⟩
def rd13_ (j : Nat) : EvC := match j with
  | 0 => ⟨fun fr => fr.lo.p13.p0⟩
  | 1 => ⟨fun fr => fr.lo.p13.p1⟩
  | 2 => ⟨fun fr => fr.lo.p13.p2⟩
  | 3 => ⟨fun fr => fr.lo.p13.p3⟩
  | 4 => ⟨fun fr => fr.lo.p13.p4⟩
  | 5 => ⟨fun fr => fr.lo.p13.p5⟩
  | 6 => ⟨fun fr => fr.lo.p13.p6⟩
  | 7 => ⟨fun fr => fr.lo.p13.p7⟩
  | 8 => ⟨fun fr => fr.lo.p13.p8⟩
  | 9 => ⟨fun fr => fr.lo.p13.p9⟩
  | 10 => ⟨fun fr => fr.lo.p13.p10⟩
  | 11 => ⟨fun fr => fr.lo.p13.p11⟩
  | 12 => ⟨fun fr => fr.lo.p13.p12⟩
  | 13 => ⟨fun fr => fr.lo.p13.p13⟩
  | 14 => ⟨fun fr => fr.lo.p13.p14⟩
  | _ => ⟨fun fr => fr.lo.p13.p15⟩
def wr13_ (j : Nat) : Wr := match j with
  | 0 => ⟨fun fr x => Fr.casesOn fr fun lo hi => P16.casesOn lo fun a0 a1 a2 a3 a4 a5 a6 a7 a8 a9 a10 a11 a12 a13 a14 a15 => P16.casesOn a13 fun _ b1 b2 b3 b4 b5 b6 b7 b8 b9 b10 b11 b12 b13 b14 b15 => ⟨⟨a0, a1, a2, a3, a4, a5, a6, a7, a8, a9, a10, a11, a12, ⟨x, b1, b2, b3, b4, b5, b6, b7, b8, b9, b10, b11, b12, b13, b14, b15⟩, a14, a15⟩, hi⟩⟩
  | 1 => ⟨fun fr x => Fr.casesOn fr fun lo hi => P16.casesOn lo fun a0 a1 a2 a3 a4 a5 a6 a7 a8 a9 a10 a11 a12 a13 a14 a15 => P16.casesOn a13 fun b0 _ b2 b3 b4 b5 b6 b7 b8 b9 b10 b11 b12 b13 b14 b15 => ⟨⟨a0, a1, a2, a3, a4, a5, a6, a7, a8, a9, a10, a11, a12, ⟨b0, x, b2, b3, b4, b5, b6, b7, b8, b9, b10, b11, b12, b13, b14, b15⟩, a14, a15⟩, hi⟩⟩
  | 2 => ⟨fun fr x => Fr.casesOn fr fun lo hi => P16.casesOn lo fun a0 a1 a2 a3 a4 a5 a6 a7 a8 a9 a10 a11 a12 a13 a14 a15 => P16.casesOn a13 fun b0 b1 _ b3 b4 b5 b6 b7 b8 b9 b10 b11 b12 b13 b14 b15 => ⟨⟨a0, a1, a2, a3, a4, a5, a6, a7, a8, a9, a10, a11, a12, ⟨b0, b1, x, b3, b4, b5, b6, b7, b8, b9, b10, b11, b12, b13, b14, b15⟩, a14, a15⟩, hi⟩⟩
  | 3 => ⟨fun fr x => Fr.casesOn fr fun lo hi => P16.casesOn lo fun a0 a1 a2 a3 a4 a5 a6 a7 a8 a9 a10 a11 a12 a13 a14 a15 => P16.casesOn a13 fun b0 b1 b2 _ b4 b5 b6 b7 b8 b9 b10 b11 b12 b13 b14 b15 => ⟨⟨a0, a1, a2, a3, a4, a5, a6, a7, a8, a9, a10, a11, a12, ⟨b0, b1, b2, x, b4, b5, b6, b7, b8, b9, b10, b11, b12, b13, b14, b15⟩, a14, a15⟩, hi⟩⟩
  | 4 => ⟨fun fr x => Fr.casesOn fr fun lo hi => P16.casesOn lo fun a0 a1 a2 a3 a4 a5 a6 a7 a8 a9 a10 a11 a12 a13 a14 a15 => P16.casesOn a13 fun b0 b1 b2 b3 _ b5 b6 b7 b8 b9 b10 b11 b12 b13 b14 b15 => ⟨⟨a0, a1, a2, a3, a4, a5, a6, a7, a8, a9, a10, a11, a12, ⟨b0, b1, b2, b3, x, b5, b6, b7, b8, b9, b10, b11, b12, b13, b14, b15⟩, a14, a15⟩, hi⟩⟩
  | 5 => ⟨fun fr x => Fr.casesOn fr fun lo hi => P16.casesOn lo fun a0 a1 a2 a3 a4 a5 a6 a7 a8 a9 a10 a11 a12 a13 a14 a15 => P16.casesOn a13 fun b0 b1 b2 b3 b4 _ b6 b7 b8 b9 b10 b11 b12 b13 b14 b15 => ⟨⟨a0, a1, a2, a3, a4, a5, a6, a7, a8, a9, a10, a11, a12, ⟨b0, b1, b2, b3, b4, x, b6, b7, b8, b9, b10, b11, b12, b13, b14, b15⟩, a14, a15⟩, hi⟩⟩
  | 6 => ⟨fun fr x => Fr.casesOn fr fun lo hi => P16.casesOn lo fun a0 a1 a2 a3 a4 a5 a6 a7 a8 a9 a10 a11 a12 a13 a14 a15 => P16.casesOn a13 fun b0 b1 b2 b3 b4 b5 _ b7 b8 b9 b10 b11 b12 b13 b14 b15 => ⟨⟨a0, a1, a2, a3, a4, a5, a6, a7, a8, a9, a10, a11, a12, ⟨b0, b1, b2, b3, b4, b5, x, b7, b8, b9, b10, b11, b12, b13, b14, b15⟩, a14, a15⟩, hi⟩⟩
  | 7 => ⟨fun fr x => Fr.casesOn fr fun lo hi => P16.casesOn lo fun a0 a1 a2 a3 a4 a5 a6 a7 a8 a9 a10 a11 a12 a13 a14 a15 => P16.casesOn a13 fun b0 b1 b2 b3 b4 b5 b6 _ b8 b9 b10 b11 b12 b13 b14 b15 => ⟨⟨a0, a1, a2, a3, a4, a5, a6, a7, a8, a9, a10, a11, a12, ⟨b0, b1, b2, b3, b4, b5, b6, x, b8, b9, b10, b11, b12, b13, b14, b15⟩, a14, a15⟩, hi⟩⟩
  | 8 => ⟨fun fr x => Fr.casesOn fr fun lo hi => P16.casesOn lo fun a0 a1 a2 a3 a4 a5 a6 a7 a8 a9 a10 a11 a12 a13 a14 a15 => P16.casesOn a13 fun b0 b1 b2 b3 b4 b5 b6 b7 _ b9 b10 b11 b12 b13 b14 b15 => ⟨⟨a0, a1, a2, a3, a4, a5, a6, a7, a8, a9, a10, a11, a12, ⟨b0, b1, b2, b3, b4, b5, b6, b7, x, b9, b10, b11, b12, b13, b14, b15⟩, a14, a15⟩, hi⟩⟩
  | 9 => ⟨fun fr x => Fr.casesOn fr fun lo hi => P16.casesOn lo fun a0 a1 a2 a3 a4 a5 a6 a7 a8 a9 a10 a11 a12 a13 a14 a15 => P16.casesOn a13 fun b0 b1 b2 b3 b4 b5 b6 b7 b8 _ b10 b11 b12 b13 b14 b15 => ⟨⟨a0, a1, a2, a3, a4, a5, a6, a7, a8, a9, a10, a11, a12, ⟨b0, b1, b2, b3, b4, b5, b6, b7, b8, x, b10, b11, b12, b13, b14, b15⟩, a14, a15⟩, hi⟩⟩
  | 10 => ⟨fun fr x => Fr.casesOn fr fun lo hi => P16.casesOn lo fun a0 a1 a2 a3 a4 a5 a6 a7 a8 a9 a10 a11 a12 a13 a14 a15 => P16.casesOn a13 fun b0 b1 b2 b3 b4 b5 b6 b7 b8 b9 _ b11 b12 b13 b14 b15 => ⟨⟨a0, a1, a2, a3, a4, a5, a6, a7, a8, a9, a10, a11, a12, ⟨b0, b1, b2, b3, b4, b5, b6, b7, b8, b9, x, b11, b12, b13, b14, b15⟩, a14, a15⟩, hi⟩⟩
  | 11 => ⟨fun fr x => Fr.casesOn fr fun lo hi => P16.casesOn lo fun a0 a1 a2 a3 a4 a5 a6 a7 a8 a9 a10 a11 a12 a13 a14 a15 => P16.casesOn a13 fun b0 b1 b2 b3 b4 b5 b6 b7 b8 b9 b10 _ b12 b13 b14 b15 => ⟨⟨a0, a1, a2, a3, a4, a5, a6, a7, a8, a9, a10, a11, a12, ⟨b0, b1, b2, b3, b4, b5, b6, b7, b8, b9, b10, x, b12, b13, b14, b15⟩, a14, a15⟩, hi⟩⟩
  | 12 => ⟨fun fr x => Fr.casesOn fr fun lo hi => P16.casesOn lo fun a0 a1 a2 a3 a4 a5 a6 a7 a8 a9 a10 a11 a12 a13 a14 a15 => P16.casesOn a13 fun b0 b1 b2 b3 b4 b5 b6 b7 b8 b9 b10 b11 _ b13 b14 b15 => ⟨⟨a0, a1, a2, a3, a4, a5, a6, a7, a8, a9, a10, a11, a12, ⟨b0, b1, b2, b3, b4, b5, b6, b7, b8, b9, b10, b11, x, b13, b14, b15⟩, a14, a15⟩, hi⟩⟩
  | 13 => ⟨fun fr x => Fr.casesOn fr fun lo hi => P16.casesOn lo fun a0 a1 a2 a3 a4 a5 a6 a7 a8 a9 a10 a11 a12 a13 a14 a15 => P16.casesOn a13 fun b0 b1 b2 b3 b4 b5 b6 b7 b8 b9 b10 b11 b12 _ b14 b15 => ⟨⟨a0, a1, a2, a3, a4, a5, a6, a7, a8, a9, a10, a11, a12, ⟨b0, b1, b2, b3, b4, b5, b6, b7, b8, b9, b10, b11, b12, x, b14, b15⟩, a14, a15⟩, hi⟩⟩
  | 14 => ⟨fun fr x => Fr.casesOn fr fun lo hi => P16.casesOn lo fun a0 a1 a2 a3 a4 a5 a6 a7 a8 a9 a10 a11 a12 a13 a14 a15 => P16.casesOn a13 fun b0 b1 b2 b3 b4 b5 b6 b7 b8 b9 b10 b11 b12 b13 _ b15 => ⟨⟨a0, a1, a2, a3, a4, a5, a6, a7, a8, a9, a10, a11, a12, ⟨b0, b1, b2, b3, b4, b5, b6, b7, b8, b9, b10, b11, b12, b13, x, b15⟩, a14, a15⟩, hi⟩⟩
  | _ => ⟨fun fr x => Fr.casesOn fr fun lo hi => P16.casesOn lo fun a0 a1 a2 a3 a4 a5 a6 a7 a8 a9 a10 a11 a12 a13 a14 a15 => P16.casesOn a13 fun b0 b1 b2 b3 b4 b5 b6 b7 b8 b9 b10 b11 b12 b13 b14 _ => ⟨⟨a0, a1, a2, a3, a4, a5, a6, a7, a8, a9, a10, a11, a12, ⟨b0, b1, b2, b3, b4, b5, b6, b7, b8, b9, b10, b11, b12, b13, b14, x⟩, a14, a15⟩, hi⟩⟩
def rd14_ (j : Nat) : EvC := match j with
  | 0 => ⟨fun fr => fr.lo.p14.p0⟩
  | 1 => ⟨fun fr => fr.lo.p14.p1⟩
  | 2 => ⟨fun fr => fr.lo.p14.p2⟩
  | 3 => ⟨fun fr => fr.lo.p14.p3⟩
  | 4 => ⟨fun fr => fr.lo.p14.p4⟩
  | 5 => ⟨fun fr => fr.lo.p14.p5⟩
  | 6 => ⟨fun fr => fr.lo.p14.p6⟩
  | 7 => ⟨fun fr => fr.lo.p14.p7⟩
  | 8 => ⟨fun fr => fr.lo.p14.p8⟩
  | 9 => ⟨fun fr => fr.lo.p14.p9⟩
  | 10 => ⟨fun fr => fr.lo.p14.p10⟩
  | 11 => ⟨fun fr => fr.lo.p14.p11⟩
  | 12 => ⟨fun fr => fr.lo.p14.p12⟩
  | 13 => ⟨fun fr => fr.lo.p14.p13⟩
  | 14 => ⟨fun fr => fr.lo.p14.p14⟩
  | _ => ⟨fun fr => fr.lo.p14.p15⟩
def wr14_ (j : Nat) : Wr := match j with
  | 0 => ⟨fun fr x => Fr.casesOn fr fun lo hi => P16.casesOn lo fun a0 a1 a2 a3 a4 a5 a6 a7 a8 a9 a10 a11 a12 a13 a14 a15 => P16.casesOn a14 fun _ b1 b2 b3 b4 b5 b6 b7 b8 b9 b10 b11 b12 b13 b14 b15 => ⟨⟨a0, a1, a2, a3, a4, a5, a6, a7, a8, a9, a10, a11, a12, a13, ⟨x, b1, b2, b3, b4, b5, b6, b7, b8, b9, b10, b11, b12, b13, b14, b15⟩, a15⟩, hi⟩⟩
  | 1 => ⟨fun fr x => Fr.casesOn fr fun lo hi => P16.casesOn lo fun a0 a1 a2 a3 a4 a5 a6 a7 a8 a9 a10 a11 a12 a13 a14 a15 => P16.casesOn a14 fun b0 _ b2 b3 b4 b5 b6 b7 b8 b9 b10 b11 b12 b13 b14 b15 => ⟨⟨a0, a1, a2, a3, a4, a5, a6, a7, a8, a9, a10, a11, a12, a13, ⟨b0, x, b2, b3, b4, b5, b6, b7, b8, b9, b10, b11, b12, b13, b14, b15⟩, a15⟩, hi⟩⟩
  | 2 => ⟨fun fr x => Fr.casesOn fr fun lo hi => P16.casesOn lo fun a0 a1 a2 a3 a4 a5 a6 a7 a8 a9 a10 a11 a12 a13 a14 a15 => P16.casesOn a14 fun b0 b1 _ b3 b4 b5 b6 b7 b8 b9 b10 b11 b12 b13 b14 b15 => ⟨⟨a0, a1, a2, a3, a4, a5, a6, a7, a8, a9, a10, a11, a12, a13, ⟨b0, b1, x, b3, b4, b5, b6, b7, b8, b9, b10, b11, b12, b13, b14, b15⟩, a15⟩, hi⟩⟩
  | 3 => ⟨fun fr x => Fr.casesOn fr fun lo hi => P16.casesOn lo fun a0 a1 a2 a3 a4 a5 a6 a7 a8 a9 a10 a11 a12 a13 a14 a15 => P16.casesOn a14 fun b0 b1 b2 _ b4 b5 b6 b7 b8 b9 b10 b11 b12 b13 b14 b15 => ⟨⟨a0, a1, a2, a3, a4, a5, a6, a7, a8, a9, a10, a11, a12, a13, ⟨b0, b1, b2, x, b4, b5, b6, b7, b8, b9, b10, b11, b12, b13, b14, b15⟩, a15⟩, hi⟩⟩
  | 4 => ⟨fun fr x => Fr.casesOn fr fun lo hi => P16.casesOn lo fun a0 a1 a2 a3 a4 a5 a6 a7 a8 a9 a10 a11 a12 a13 a14 a15 => P16.casesOn a14 fun b0 b1 b2 b3 _ b5 b6 b7 b8 b9 b10 b11 b12 b13 b14 b15 => ⟨⟨a0, a1, a2, a3, a4, a5, a6, a7, a8, a9, a10, a11, a12, a13, ⟨b0, b1, b2, b3, x, b5, b6, b7, b8, b9, b10, b11, b12, b13, b14, b15⟩, a15⟩, hi⟩⟩
  | 5 => ⟨fun fr x => Fr.casesOn fr fun lo hi => P16.casesOn lo fun a0 a1 a2 a3 a4 a5 a6 a7 a8 a9 a10 a11 a12 a13 a14 a15 => P16.casesOn a14 fun b0 b1 b2 b3 b4 _ b6 b7 b8 b9 b10 b11 b12 b13 b14 b15 => ⟨⟨a0, a1, a2, a3, a4, a5, a6, a7, a8, a9, a10, a11, a12, a13, ⟨b0, b1, b2, b3, b4, x, b6, b7, b8, b9, b10, b11, b12, b13, b14, b15⟩, a15⟩, hi⟩⟩
  | 6 => ⟨fun fr x => Fr.casesOn fr fun lo hi => P16.casesOn lo fun a0 a1 a2 a3 a4 a5 a6 a7 a8 a9 a10 a11 a12 a13 a14 a15 => P16.casesOn a14 fun b0 b1 b2 b3 b4 b5 _ b7 b8 b9 b10 b11 b12 b13 b14 b15 => ⟨⟨a0, a1, a2, a3, a4, a5, a6, a7, a8, a9, a10, a11, a12, a13, ⟨b0, b1, b2, b3, b4, b5, x, b7, b8, b9, b10, b11, b12, b13, b14, b15⟩, a15⟩, hi⟩⟩
  | 7 => ⟨fun fr x => Fr.casesOn fr fun lo hi => P16.casesOn lo fun a0 a1 a2 a3 a4 a5 a6 a7 a8 a9 a10 a11 a12 a13 a14 a15 => P16.casesOn a14 fun b0 b1 b2 b3 b4 b5 b6 _ b8 b9 b10 b11 b12 b13 b14 b15 => ⟨⟨a0, a1, a2, a3, a4, a5, a6, a7, a8, a9, a10, a11, a12, a13, ⟨b0, b1, b2, b3, b4, b5, b6, x, b8, b9, b10, b11, b12, b13, b14, b15⟩, a15⟩, hi⟩⟩
  | 8 => ⟨fun fr x => Fr.casesOn fr fun lo hi => P16.casesOn lo fun a0 a1 a2 a3 a4 a5 a6 a7 a8 a9 a10 a11 a12 a13 a14 a15 => P16.casesOn a14 fun b0 b1 b2 b3 b4 b5 b6 b7 _ b9 b10 b11 b12 b13 b14 b15 => ⟨⟨a0, a1, a2, a3, a4, a5, a6, a7, a8, a9, a10, a11, a12, a13, ⟨b0, b1, b2, b3, b4, b5, b6, b7, x, b9, b10, b11, b12, b13, b14, b15⟩, a15⟩, hi⟩⟩
  | 9 => ⟨fun fr x => Fr.casesOn fr fun lo hi => P16.casesOn lo fun a0 a1 a2 a3 a4 a5 a6 a7 a8 a9 a10 a11 a12 a13 a14 a15 => P16.casesOn a14 fun b0 b1 b2 b3 b4 b5 b6 b7 b8 _ b10 b11 b12 b13 b14 b15 => ⟨⟨a0, a1, a2, a3, a4, a5, a6, a7, a8, a9, a10, a11, a12, a13, ⟨b0, b1, b2, b3, b4, b5, b6, b7, b8, x, b10, b11, b12, b13, b14, b15⟩, a15⟩, hi⟩⟩
  | 10 => ⟨fun fr x => Fr.casesOn fr fun lo hi => P16.casesOn lo fun a0 a1 a2 a3 a4 a5 a6 a7 a8 a9 a10 a11 a12 a13 a14 a15 => P16.casesOn a14 fun b0 b1 b2 b3 b4 b5 b6 b7 b8 b9 _ b11 b12 b13 b14 b15 => ⟨⟨a0, a1, a2, a3, a4, a5, a6, a7, a8, a9, a10, a11, a12, a13, ⟨b0, b1, b2, b3, b4, b5, b6, b7, b8, b9, x, b11, b12, b13, b14, b15⟩, a15⟩, hi⟩⟩
  | 11 => ⟨fun fr x => Fr.casesOn fr fun lo hi => P16.casesOn lo fun a0 a1 a2 a3 a4 a5 a6 a7 a8 a9 a10 a11 a12 a13 a14 a15 => P16.casesOn a14 fun b0 b1 b2 b3 b4 b5 b6 b7 b8 b9 b10 _ b12 b13 b14 b15 => ⟨⟨a0, a1, a2, a3, a4, a5, a6, a7, a8, a9, a10, a11, a12, a13, ⟨b0, b1, b2, b3, b4, b5, b6, b7, b8, b9, b10, x, b12, b13, b14, b15⟩, a15⟩, hi⟩⟩
  | 12 => ⟨fun fr x => Fr.casesOn fr fun lo hi => P16.casesOn lo fun a0 a1 a2 a3 a4 a5 a6 a7 a8 a9 a10 a11 a12 a13 a14 a15 => P16.casesOn a14 fun b0 b1 b2 b3 b4 b5 b6 b7 b8 b9 b10 b11 _ b13 b14 b15 => ⟨⟨a0, a1, a2, a3, a4, a5, a6, a7, a8, a9, a10, a11, a12, a13, ⟨b0, b1, b2, b3, b4, b5, b6, b7, b8, b9, b10, b11, x, b13, b14, b15⟩, a15⟩, hi⟩⟩
  | 13 => ⟨fun fr x => Fr.casesOn fr fun lo hi => P16.casesOn lo fun a0 a1 a2 a3 a4 a5 a6 a7 a8 a9 a10 a11 a12 a13 a14 a15 => P16.casesOn a14 fun b0 b1 b2 b3 b4 b5 b6 b7 b8 b9 b10 b11 b12 _ b14 b15 => ⟨⟨a0, a1, a2, a3, a4, a5, a6, a7, a8, a9, a10, a11, a12, a13, ⟨b0, b1, b2, b3, b4, b5, b6, b7, b8, b9, b10, b11, b12, x, b14, b15⟩, a15⟩, hi⟩⟩
  | 14 => ⟨fun fr x => Fr.casesOn fr fun lo hi => P16.casesOn lo fun a0 a1 a2 a3 a4 a5 a6 a7 a8 a9 a10 a11 a12 a13 a14 a15 => P16.casesOn a14 fun b0 b1 b2 b3 b4 b5 b6 b7 b8 b9 b10 b11 b12 b13 _ b15 => ⟨⟨a0, a1, a2, a3, a4, a5, a6, a7, a8, a9, a10, a11, a12, a13, ⟨b0, b1, b2, b3, b4, b5, b6, b7, b8, b9, b10, b11, b12, b13, x, b15⟩, a15⟩, hi⟩⟩
  | _ => ⟨fun fr x => Fr.casesOn fr fun lo hi => P16.casesOn lo fun a0 a1 a2 a3 a4 a5 a6 a7 a8 a9 a10 a11 a12 a13 a14 a15 => P16.casesOn a14 fun b0 b1 b2 b3 b4 b5 b6 b7 b8 b9 b10 b11 b12 b13 b14 _ => ⟨⟨a0, a1, a2, a3, a4, a5, a6, a7, a8, a9, a10, a11, a12, a13, ⟨b0, b1, b2, b3, b4, b5, b6, b7, b8, b9, b10, b11, b12, b13, b14, x⟩, a15⟩, hi⟩⟩
def rd15_ (j : Nat) : EvC := match j with
  | 0 => ⟨fun fr => fr.lo.p15.p0⟩
  | 1 => ⟨fun fr => fr.lo.p15.p1⟩
  | 2 => ⟨fun fr => fr.lo.p15.p2⟩
  | 3 => ⟨fun fr => fr.lo.p15.p3⟩
  | 4 => ⟨fun fr => fr.lo.p15.p4⟩
  | 5 => ⟨fun fr => fr.lo.p15.p5⟩
  | 6 => ⟨fun fr => fr.lo.p15.p6⟩
  | 7 => ⟨fun fr => fr.lo.p15.p7⟩
  | 8 => ⟨fun fr => fr.lo.p15.p8⟩
  | 9 => ⟨fun fr => fr.lo.p15.p9⟩
  | 10 => ⟨fun fr => fr.lo.p15.p10⟩
  | 11 => ⟨fun fr => fr.lo.p15.p11⟩
  | 12 => ⟨fun fr => fr.lo.p15.p12⟩
  | 13 => ⟨fun fr => fr.lo.p15.p13⟩
  | 14 => ⟨fun fr => fr.lo.p15.p14⟩
  | _ => ⟨fun fr => fr.lo.p15.p15⟩
def wr15_ (j : Nat) : Wr := match j with
  | 0 => ⟨fun fr x => Fr.casesOn fr fun lo hi => P16.casesOn lo fun a0 a1 a2 a3 a4 a5 a6 a7 a8 a9 a10 a11 a12 a13 a14 a15 => P16.casesOn a15 fun _ b1 b2 b3 b4 b5 b6 b7 b8 b9 b10 b11 b12 b13 b14 b15 => ⟨⟨a0, a1, a2, a3, a4, a5, a6, a7, a8, a9, a10, a11, a12, a13, a14, ⟨x, b1, b2, b3, b4, b5, b6, b7, b8, b9, b10, b11, b12, b13, b14, b15⟩⟩, hi⟩⟩
  | 1 => ⟨fun fr x => Fr.casesOn fr fun lo hi => P16.casesOn lo fun a0 a1 a2 a3 a4 a5 a6 a7 a8 a9 a10 a11 a12 a13 a14 a15 => P16.casesOn a15 fun b0 _ b2 b3 b4 b5 b6 b7 b8 b9 b10 b11 b12 b13 b14 b15 => ⟨⟨a0, a1, a2, a3, a4, a5, a6, a7, a8, a9, a10, a11, a12, a13, a14, ⟨b0, x, b2, b3, b4, b5, b6, b7, b8, b9, b10, b11, b12, b13, b14, b15⟩⟩, hi⟩⟩
  | 2 => ⟨fun fr x => Fr.casesOn fr fun lo hi => P16.casesOn lo fun a0 a1 a2 a3 a4 a5 a6 a7 a8 a9 a10 a11 a12 a13 a14 a15 => P16.casesOn a15 fun b0 b1 _ b3 b4 b5 b6 b7 b8 b9 b10 b11 b12 b13 b14 b15 => ⟨⟨a0, a1, a2, a3, a4, a5, a6, a7, a8, a9, a10, a11, a12, a13, a14, ⟨b0, b1, x, b3, b4, b5, b6, b7, b8, b9, b10, b11, b12, b13, b14, b15⟩⟩, hi⟩⟩
  | 3 => ⟨fun fr x => Fr.casesOn fr fun lo hi => P16.casesOn lo fun a0 a1 a2 a3 a4 a5 a6 a7 a8 a9 a10 a11 a12 a13 a14 a15 => P16.casesOn a15 fun b0 b1 b2 _ b4 b5 b6 b7 b8 b9 b10 b11 b12 b13 b14 b15 => ⟨⟨a0, a1, a2, a3, a4, a5, a6, a7, a8, a9, a10, a11, a12, a13, a14, ⟨b0, b1, b2, x, b4, b5, b6, b7, b8, b9, b10, b11, b12, b13, b14, b15⟩⟩, hi⟩⟩
  | 4 => ⟨fun fr x => Fr.casesOn fr fun lo hi => P16.casesOn lo fun a0 a1 a2 a3 a4 a5 a6 a7 a8 a9 a10 a11 a12 a13 a14 a15 => P16.casesOn a15 fun b0 b1 b2 b3 _ b5 b6 b7 b8 b9 b10 b11 b12 b13 b14 b15 => ⟨⟨a0, a1, a2, a3, a4, a5, a6, a7, a8, a9, a10, a11, a12, a13, a14, ⟨b0, b1, b2, b3, x, b5, b6, b7, b8, b9, b10, b11, b12, b13, b14, b15⟩⟩, hi⟩⟩
  | 5 => ⟨fun fr x => Fr.casesOn fr fun lo hi => P16.casesOn lo fun a0 a1 a2 a3 a4 a5 a6 a7 a8 a9 a10 a11 a12 a13 a14 a15 => P16.casesOn a15 fun b0 b1 b2 b3 b4 _ b6 b7 b8 b9 b10 b11 b12 b13 b14 b15 => ⟨⟨a0, a1, a2, a3, a4, a5, a6, a7, a8, a9, a10, a11, a12, a13, a14, ⟨b0, b1, b2, b3, b4, x, b6, b7, b8, b9, b10, b11, b12, b13, b14, b15⟩⟩, hi⟩⟩
  | 6 => ⟨fun fr x => Fr.casesOn fr fun lo hi => P16.casesOn lo fun a0 a1 a2 a3 a4 a5 a6 a7 a8 a9 a10 a11 a12 a13 a14 a15 => P16.casesOn a15 fun b0 b1 b2 b3 b4 b5 _ b7 b8 b9 b10 b11 b12 b13 b14 b15 => ⟨⟨a0, a1, a2, a3, a4, a5, a6, a7, a8, a9, a10, a11, a12, a13, a14, ⟨b0, b1, b2, b3, b4, b5, x, b7, b8, b9, b10, b11, b12, b13, b14, b15⟩⟩, hi⟩⟩
  | 7 => ⟨fun fr x => Fr.casesOn fr fun lo hi => P16.casesOn lo fun a0 a1 a2 a3 a4 a5 a6 a7 a8 a9 a10 a11 a12 a13 a14 a15 => P16.casesOn a15 fun b0 b1 b2 b3 b4 b5 b6 _ b8 b9 b10 b11 b12 b13 b14 b15 => ⟨⟨a0, a1, a2, a3, a4, a5, a6, a7, a8, a9, a10, a11, a12, a13, a14, ⟨b0, b1, b2, b3, b4, b5, b6, x, b8, b9, b10, b11, b12, b13, b14, b15⟩⟩, hi⟩⟩
  | 8 => ⟨fun fr x => Fr.casesOn fr fun lo hi => P16.casesOn lo fun a0 a1 a2 a3 a4 a5 a6 a7 a8 a9 a10 a11 a12 a13 a14 a15 => P16.casesOn a15 fun b0 b1 b2 b3 b4 b5 b6 b7 _ b9 b10 b11 b12 b13 b14 b15 => ⟨⟨a0, a1, a2, a3, a4, a5, a6, a7, a8, a9, a10, a11, a12, a13, a14, ⟨b0, b1, b2, b3, b4, b5, b6, b7, x, b9, b10, b11, b12, b13, b14, b15⟩⟩, hi⟩⟩
  | 9 => ⟨fun fr x => Fr.casesOn fr fun lo hi => P16.casesOn lo fun a0 a1 a2 a3 a4 a5 a6 a7 a8 a9 a10 a11 a12 a13 a14 a15 => P16.casesOn a15 fun b0 b1 b2 b3 b4 b5 b6 b7 b8 _ b10 b11 b12 b13 b14 b15 => ⟨⟨a0, a1, a2, a3, a4, a5, a6, a7, a8, a9, a10, a11, a12, a13, a14, ⟨b0, b1, b2, b3, b4, b5, b6, b7, b8, x, b10, b11, b12, b13, b14, b15⟩⟩, hi⟩⟩
  | 10 => ⟨fun fr x => Fr.casesOn fr fun lo hi => P16.casesOn lo fun a0 a1 a2 a3 a4 a5 a6 a7 a8 a9 a10 a11 a12 a13 a14 a15 => P16.casesOn a15 fun b0 b1 b2 b3 b4 b5 b6 b7 b8 b9 _ b11 b12 b13 b14 b15 => ⟨⟨a0, a1, a2, a3, a4, a5, a6, a7, a8, a9, a10, a11, a12, a13, a14, ⟨b0, b1, b2, b3, b4, b5, b6, b7, b8, b9, x, b11, b12, b13, b14, b15⟩⟩, hi⟩⟩
  | 11 => ⟨fun fr x => Fr.casesOn fr fun lo hi => P16.casesOn lo fun a0 a1 a2 a3 a4 a5 a6 a7 a8 a9 a10 a11 a12 a13 a14 a15 => P16.casesOn a15 fun b0 b1 b2 b3 b4 b5 b6 b7 b8 b9 b10 _ b12 b13 b14 b15 => ⟨⟨a0, a1, a2, a3, a4, a5, a6, a7, a8, a9, a10, a11, a12, a13, a14, ⟨b0, b1, b2, b3, b4, b5, b6, b7, b8, b9, b10, x, b12, b13, b14, b15⟩⟩, hi⟩⟩
  | 12 => ⟨fun fr x => Fr.casesOn fr fun lo hi => P16.casesOn lo fun a0 a1 a2 a3 a4 a5 a6 a7 a8 a9 a10 a11 a12 a13 a14 a15 => P16.casesOn a15 fun b0 b1 b2 b3 b4 b5 b6 b7 b8 b9 b10 b11 _ b13 b14 b15 => ⟨⟨a0, a1, a2, a3, a4, a5, a6, a7, a8, a9, a10, a11, a12, a13, a14, ⟨b0, b1, b2, b3, b4, b5, b6, b7, b8, b9, b10, b11, x, b13, b14, b15⟩⟩, hi⟩⟩
  | 13 => ⟨fun fr x => Fr.casesOn fr fun lo hi => P16.casesOn lo fun a0 a1 a2 a3 a4 a5 a6 a7 a8 a9 a10 a11 a12 a13 a14 a15 => P16.casesOn a15 fun b0 b1 b2 b3 b4 b5 b6 b7 b8 b9 b10 b11 b12 _ b14 b15 => ⟨⟨a0, a1, a2, a3, a4, a5, a6, a7, a8, a9, a10, a11, a12, a13, a14, ⟨b0, b1, b2, b3, b4, b5, b6, b7, b8, b9, b10, b11, b12, x, b14, b15⟩⟩, hi⟩⟩
  | 14 => ⟨fun fr x => Fr.casesOn fr fun lo hi => P16.casesOn lo fun a0 a1 a2 a3 a4 a5 a6 a7 a8 a9 a10 a11 a12 a13 a14 a15 => P16.casesOn a15 fun b0 b1 b2 b3 b4 b5 b6 b7 b8 b9 b10 b11 b12 b13 _ b15 => ⟨⟨a0, a1, a2, a3, a4, a5, a6, a7, a8, a9, a10, a11, a12, a13, a14, ⟨b0, b1, b2, b3, b4, b5, b6, b7, b8, b9, b10, b11, b12, b13, x, b15⟩⟩, hi⟩⟩
  | _ => ⟨fun fr x => Fr.casesOn fr fun lo hi => P16.casesOn lo fun a0 a1 a2 a3 a4 a5 a6 a7 a8 a9 a10 a11 a12 a13 a14 a15 => P16.casesOn a15 fun b0 b1 b2 b3 b4 b5 b6 b7 b8 b9 b10 b11 b12 b13 b14 _ => ⟨⟨a0, a1, a2, a3, a4, a5, a6, a7, a8, a9, a10, a11, a12, a13, a14, ⟨b0, b1, b2, b3, b4, b5, b6, b7, b8, b9, b10, b11, b12, b13, b14, x⟩⟩, hi⟩⟩
theorem rd0_eq {j : Nat} (h : j < 16) (fr : Fr) : (rd0_ j).g fr = ((half 0).then ((at16 0).then (at16 j))).g fr := by
  rcases sixteen h with rfl | rfl | rfl | rfl | rfl | rfl | rfl | rfl | rfl | rfl | rfl | rfl | rfl | rfl | rfl | rfl <;> rfl
theorem wr0_eq {j : Nat} (h : j < 16) (fr : Fr) (x : AV) : (wr0_ j).s fr x = ((half 0).then ((at16 0).then (at16 j))).u fr fun _ => x := by
  rcases fr with ⟨⟨a0, a1, a2, a3, a4, a5, a6, a7, a8, a9, a10, a11, a12, a13, a14, a15⟩, hi⟩
  rcases a0 with ⟨b0, b1, b2, b3, b4, b5, b6, b7, b8, b9, b10, b11, b12, b13, b14, b15⟩
  rcases sixteen h with rfl | rfl | rfl | rfl | rfl | rfl | rfl | rfl | rfl | rfl | rfl | rfl | rfl | rfl | rfl | rfl <;> rfl
theorem rd1_eq {j : Nat} (h : j < 16) (fr : Fr) : (rd1_ j).g fr = ((half 0).then ((at16 1).then (at16 j))).g fr := by
  rcases sixteen h with rfl | rfl | rfl | rfl | rfl | rfl | rfl | rfl | rfl | rfl | rfl | rfl | rfl | rfl | rfl | rfl <;> rfl
theorem wr1_eq {j : Nat} (h : j < 16) (fr : Fr) (x : AV) : (wr1_ j).s fr x = ((half 0).then ((at16 1).then (at16 j))).u fr fun _ => x := by
  rcases fr with ⟨⟨a0, a1, a2, a3, a4, a5, a6, a7, a8, a9, a10, a11, a12, a13, a14, a15⟩, hi⟩
  rcases a1 with ⟨b0, b1, b2, b3, b4, b5, b6, b7, b8, b9, b10, b11, b12, b13, b14, b15⟩
  rcases sixteen h with rfl | rfl | rfl | rfl | rfl | rfl | rfl | rfl | rfl | rfl | rfl | rfl | rfl | rfl | rfl | rfl <;> rfl
theorem rd2_eq {j : Nat} (h : j < 16) (fr : Fr) : (rd2_ j).g fr = ((half 0).then ((at16 2).then (at16 j))).g fr := by
  rcases sixteen h with rfl | rfl | rfl | rfl | rfl | rfl | rfl | rfl | rfl | rfl | rfl | rfl | rfl | rfl | rfl | rfl <;> rfl
theorem wr2_eq {j : Nat} (h : j < 16) (fr : Fr) (x : AV) : (wr2_ j).s fr x = ((half 0).then ((at16 2).then (at16 j))).u fr fun _ => x := by
  rcases fr with ⟨⟨a0, a1, a2, a3, a4, a5, a6, a7, a8, a9, a10, a11, a12, a13, a14, a15⟩, hi⟩
  rcases a2 with ⟨b0, b1, b2, b3, b4, b5, b6, b7, b8, b9, b10, b11, b12, b13, b14, b15⟩
  rcases sixteen h with rfl | rfl | rfl | rfl | rfl | rfl | rfl | rfl | rfl | rfl | rfl | rfl | rfl | rfl | rfl | rfl <;> rfl
theorem rd3_eq {j : Nat} (h : j < 16) (fr : Fr) : (rd3_ j).g fr = ((half 0).then ((at16 3).then (at16 j))).g fr := by
  rcases sixteen h with rfl | rfl | rfl | rfl | rfl | rfl | rfl | rfl | rfl | rfl | rfl | rfl | rfl | rfl | rfl | rfl <;> rfl
theorem wr3_eq {j : Nat} (h : j < 16) (fr : Fr) (x : AV) : (wr3_ j).s fr x = ((half 0).then ((at16 3).then (at16 j))).u fr fun _ => x := by
  rcases fr with ⟨⟨a0, a1, a2, a3, a4, a5, a6, a7, a8, a9, a10, a11, a12, a13, a14, a15⟩, hi⟩
  rcases a3 with ⟨b0, b1, b2, b3, b4, b5, b6, b7, b8, b9, b10, b11, b12, b13, b14, b15⟩
  rcases sixteen h with rfl | rfl | rfl | rfl | rfl | rfl | rfl | rfl | rfl | rfl | rfl | rfl | rfl | rfl | rfl | rfl <;> rfl
theorem rd4_eq {j : Nat} (h : j < 16) (fr : Fr) : (rd4_ j).g fr = ((half 0).then ((at16 4).then (at16 j))).g fr := by
  rcases sixteen h with rfl | rfl | rfl | rfl | rfl | rfl | rfl | rfl | rfl | rfl | rfl | rfl | rfl | rfl | rfl | rfl <;> rfl
theorem wr4_eq {j : Nat} (h : j < 16) (fr : Fr) (x : AV) : (wr4_ j).s fr x = ((half 0).then ((at16 4).then (at16 j))).u fr fun _ => x := by
  rcases fr with ⟨⟨a0, a1, a2, a3, a4, a5, a6, a7, a8, a9, a10, a11, a12, a13, a14, a15⟩, hi⟩
  rcases a4 with ⟨b0, b1, b2, b3, b4, b5, b6, b7, b8, b9, b10, b11, b12, b13, b14, b15⟩
  rcases sixteen h with rfl | rfl | rfl | rfl | rfl | rfl | rfl | rfl | rfl | rfl | rfl | rfl | rfl | rfl | rfl | rfl <;> rfl
theorem rd5_eq {j : Nat} (h : j < 16) (fr : Fr) : (rd5_ j).g fr = ((half 0).then ((at16 5).then (at16 j))).g fr := by
  rcases sixteen h with rfl | rfl | rfl | rfl | rfl | rfl | rfl | rfl | rfl | rfl | rfl | rfl | rfl | rfl | rfl | rfl <;> rfl
theorem wr5_eq {j : Nat} (h : j < 16) (fr : Fr) (x : AV) : (wr5_ j).s fr x = ((half 0).then ((at16 5).then (at16 j))).u fr fun _ => x := by
  rcases fr with ⟨⟨a0, a1, a2, a3, a4, a5, a6, a7, a8, a9, a10, a11, a12, a13, a14, a15⟩, hi⟩
  rcases a5 with ⟨b0, b1, b2, b3, b4, b5, b6, b7, b8, b9, b10, b11, b12, b13, b14, b15⟩
  rcases sixteen h with rfl | rfl | rfl | rfl | rfl | rfl | rfl | rfl | rfl | rfl | rfl | rfl | rfl | rfl | rfl | rfl <;> rfl
theorem rd6_eq {j : Nat} (h : j < 16) (fr : Fr) : (rd6_ j).g fr = ((half 0).then ((at16 6).then (at16 j))).g fr := by
  rcases sixteen h with rfl | rfl | rfl | rfl | rfl | rfl | rfl | rfl | rfl | rfl | rfl | rfl | rfl | rfl | rfl | rfl <;> rfl
theorem wr6_eq {j : Nat} (h : j < 16) (fr : Fr) (x : AV) : (wr6_ j).s fr x = ((half 0).then ((at16 6).then (at16 j))).u fr fun _ => x := by
  rcases fr with ⟨⟨a0, a1, a2, a3, a4, a5, a6, a7, a8, a9, a10, a11, a12, a13, a14, a15⟩, hi⟩
  rcases a6 with ⟨b0, b1, b2, b3, b4, b5, b6, b7, b8, b9, b10, b11, b12, b13, b14, b15⟩
  rcases sixteen h with rfl | rfl | rfl | rfl | rfl | rfl | rfl | rfl | rfl | rfl | rfl | rfl | rfl | rfl | rfl | rfl <;> rfl
theorem rd7_eq {j : Nat} (h : j < 16) (fr : Fr) : (rd7_ j).g fr = ((half 0).then ((at16 7).then (at16 j))).g fr := by
  rcases sixteen h with rfl | rfl | rfl | rfl | rfl | rfl | rfl | rfl | rfl | rfl | rfl | rfl | rfl | rfl | rfl | rfl <;> rfl
theorem wr7_eq {j : Nat} (h : j < 16) (fr : Fr) (x : AV) : (wr7_ j).s fr x = ((half 0).then ((at16 7).then (at16 j))).u fr fun _ => x := by
  rcases fr with ⟨⟨a0, a1, a2, a3, a4, a5, a6, a7, a8, a9, a10, a11, a12, a13, a14, a15⟩, hi⟩
  rcases a7 with ⟨b0, b1, b2, b3, b4, b5, b6, b7, b8, b9, b10, b11, b12, b13, b14, b15⟩
  rcases sixteen h with rfl | rfl | rfl | rfl | rfl | rfl | rfl | rfl | rfl | rfl | rfl | rfl | rfl | rfl | rfl | rfl <;> rfl
theorem rd8_eq {j : Nat} (h : j < 16) (fr : Fr) : (rd8_ j).g fr = ((half 0).then ((at16 8).then (at16 j))).g fr := by
  rcases sixteen h with rfl | rfl | rfl | rfl | rfl | rfl | rfl | rfl | rfl | rfl | rfl | rfl | rfl | rfl | rfl | rfl <;> rfl
theorem wr8_eq {j : Nat} (h : j < 16) (fr : Fr) (x : AV) : (wr8_ j).s fr x = ((half 0).then ((at16 8).then (at16 j))).u fr fun _ => x := by
  rcases fr with ⟨⟨a0, a1, a2, a3, a4, a5, a6, a7, a8, a9, a10, a11, a12, a13, a14, a15⟩, hi⟩
  rcases a8 with ⟨b0, b1, b2, b3, b4, b5, b6, b7, b8, b9, b10, b11, b12, b13, b14, b15⟩
  rcases sixteen h with rfl | rfl | rfl | rfl | rfl | rfl | rfl | rfl | rfl | rfl | rfl | rfl | rfl | rfl | rfl | rfl <;> rfl
theorem rd9_eq {j : Nat} (h : j < 16) (fr : Fr) : (rd9_ j).g fr = ((half 0).then ((at16 9).then (at16 j))).g fr := by
  rcases sixteen h with rfl | rfl | rfl | rfl | rfl | rfl | rfl | rfl | rfl | rfl | rfl | rfl | rfl | rfl | rfl | rfl <;> rfl
theorem wr9_eq {j : Nat} (h : j < 16) (fr : Fr) (x : AV) : (wr9_ j).s fr x = ((half 0).then ((at16 9).then (at16 j))).u fr fun _ => x := by
  rcases fr with ⟨⟨a0, a1, a2, a3, a4, a5, a6, a7, a8, a9, a10, a11, a12, a13, a14, a15⟩, hi⟩
  rcases a9 with ⟨b0, b1, b2, b3, b4, b5, b6, b7, b8, b9, b10, b11, b12, b13, b14, b15⟩
  rcases sixteen h with rfl | rfl | rfl | rfl | rfl | rfl | rfl | rfl | rfl | rfl | rfl | rfl | rfl | rfl | rfl | rfl <;> rfl
theorem rd10_eq {j : Nat} (h : j < 16) (fr : Fr) : (rd10_ j).g fr = ((half 0).then ((at16 10).then (at16 j))).g fr := by
  rcases sixteen h with rfl | rfl | rfl | rfl | rfl | rfl | rfl | rfl | rfl | rfl | rfl | rfl | rfl | rfl | rfl | rfl <;> rfl
theorem wr10_eq {j : Nat} (h : j < 16) (fr : Fr) (x : AV) : (wr10_ j).s fr x = ((half 0).then ((at16 10).then (at16 j))).u fr fun _ => x := by
  rcases fr with ⟨⟨a0, a1, a2, a3, a4, a5, a6, a7, a8, a9, a10, a11, a12, a13, a14, a15⟩, hi⟩
  rcases a10 with ⟨b0, b1, b2, b3, b4, b5, b6, b7, b8, b9, b10, b11, b12, b13, b14, b15⟩
  rcases sixteen h with rfl | rfl | rfl | rfl | rfl | rfl | rfl | rfl | rfl | rfl | rfl | rfl | rfl | rfl | rfl | rfl <;> rfl
theorem rd11_eq {j : Nat} (h : j < 16) (fr : Fr) : (rd11_ j).g fr = ((half 0).then ((at16 11).then (at16 j))).g fr := by
  rcases sixteen h with rfl | rfl | rfl | rfl | rfl | rfl | rfl | rfl | rfl | rfl | rfl | rfl | rfl | rfl | rfl | rfl <;> rfl
theorem wr11_eq {j : Nat} (h : j < 16) (fr : Fr) (x : AV) : (wr11_ j).s fr x = ((half 0).then ((at16 11).then (at16 j))).u fr fun _ => x := by
  rcases fr with ⟨⟨a0, a1, a2, a3, a4, a5, a6, a7, a8, a9, a10, a11, a12, a13, a14, a15⟩, hi⟩
  rcases a11 with ⟨b0, b1, b2, b3, b4, b5, b6, b7, b8, b9, b10, b11, b12, b13, b14, b15⟩
  rcases sixteen h with rfl | rfl | rfl | rfl | rfl | rfl | rfl | rfl | rfl | rfl | rfl | rfl | rfl | rfl | rfl | rfl <;> rfl
theorem rd12_eq {j : Nat} (h : j < 16) (fr : Fr) : (rd12_ j).g fr = ((half 0).then ((at16 12).then (at16 j))).g fr := by
  rcases sixteen h with rfl | rfl | rfl | rfl | rfl | rfl | rfl | rfl | rfl | rfl | rfl | rfl | rfl | rfl | rfl | rfl <;> rfl
theorem wr12_eq {j : Nat} (h : j < 16) (fr : Fr) (x : AV) : (wr12_ j).s fr x = ((half 0).then ((at16 12).then (at16 j))).u fr fun _ => x := by
  rcases fr with ⟨⟨a0, a1, a2, a3, a4, a5, a6, a7, a8, a9, a10, a11, a12, a13, a14, a15⟩, hi⟩
  rcases a12 with ⟨b0, b1, b2, b3, b4, b5, b6, b7, b8, b9, b10, b11, b12, b13, b14, b15⟩
  rcases sixteen h with rfl | rfl | rfl | rfl | rfl | rfl | rfl | rfl | rfl | rfl | rfl | rfl | rfl | rfl | rfl | rfl <;> rfl
theorem rd13_eq {j : Nat} (h : j < 16) (fr : Fr) : (rd13_ j).g fr = ((half 0).then ((at16 13).then (at16 j))).g fr := by
  rcases sixteen h with rfl | rfl | rfl | rfl | rfl | rfl | rfl | rfl | rfl | rfl | rfl | rfl | rfl | rfl | rfl | rfl <;> rfl
theorem wr13_eq {j : Nat} (h : j < 16) (fr : Fr) (x : AV) : (wr13_ j).s fr x = ((half 0).then ((at16 13).then (at16 j))).u fr fun _ => x := by
  rcases fr with ⟨⟨a0, a1, a2, a3, a4, a5, a6, a7, a8, a9, a10, a11, a12, a13, a14, a15⟩, hi⟩
  rcases a13 with ⟨b0, b1, b2, b3, b4, b5, b6, b7, b8, b9, b10, b11, b12, b13, b14, b15⟩
  rcases sixteen h with rfl | rfl | rfl | rfl | rfl | rfl | rfl | rfl | rfl | rfl | rfl | rfl | rfl | rfl | rfl | rfl <;> rfl
theorem rd14_eq {j : Nat} (h : j < 16) (fr : Fr) : (rd14_ j).g fr = ((half 0).then ((at16 14).then (at16 j))).g fr := by
  rcases sixteen h with rfl | rfl | rfl | rfl | rfl | rfl | rfl | rfl | rfl | rfl | rfl | rfl | rfl | rfl | rfl | rfl <;> rfl
theorem wr14_eq {j : Nat} (h : j < 16) (fr : Fr) (x : AV) : (wr14_ j).s fr x = ((half 0).then ((at16 14).then (at16 j))).u fr fun _ => x := by
  rcases fr with ⟨⟨a0, a1, a2, a3, a4, a5, a6, a7, a8, a9, a10, a11, a12, a13, a14, a15⟩, hi⟩
  rcases a14 with ⟨b0, b1, b2, b3, b4, b5, b6, b7, b8, b9, b10, b11, b12, b13, b14, b15⟩
  rcases sixteen h with rfl | rfl | rfl | rfl | rfl | rfl | rfl | rfl | rfl | rfl | rfl | rfl | rfl | rfl | rfl | rfl <;> rfl
theorem rd15_eq {j : Nat} (h : j < 16) (fr : Fr) : (rd15_ j).g fr = ((half 0).then ((at16 15).then (at16 j))).g fr := by
  rcases sixteen h with rfl | rfl | rfl | rfl | rfl | rfl | rfl | rfl | rfl | rfl | rfl | rfl | rfl | rfl | rfl | rfl <;> rfl
theorem wr15_eq {j : Nat} (h : j < 16) (fr : Fr) (x : AV) : (wr15_ j).s fr x = ((half 0).then ((at16 15).then (at16 j))).u fr fun _ => x := by
  rcases fr with ⟨⟨a0, a1, a2, a3, a4, a5, a6, a7, a8, a9, a10, a11, a12, a13, a14, a15⟩, hi⟩
  rcases a15 with ⟨b0, b1, b2, b3, b4, b5, b6, b7, b8, b9, b10, b11, b12, b13, b14, b15⟩
  rcases sixteen h with rfl | rfl | rfl | rfl | rfl | rfl | rfl | rfl | rfl | rfl | rfl | rfl | rfl | rfl | rfl | rfl <;> rfl
def rdT (i j : Nat) : EvC := match i with
  | 0 => rd0_ j
  | 1 => rd1_ j
  | 2 => rd2_ j
  | 3 => rd3_ j
  | 4 => rd4_ j
  | 5 => rd5_ j
  | 6 => rd6_ j
  | 7 => rd7_ j
  | 8 => rd8_ j
  | 9 => rd9_ j
  | 10 => rd10_ j
  | 11 => rd11_ j
  | 12 => rd12_ j
  | 13 => rd13_ j
  | 14 => rd14_ j
  | _ => rd15_ j
def wrT (i j : Nat) : Wr := match i with
  | 0 => wr0_ j
  | 1 => wr1_ j
  | 2 => wr2_ j
  | 3 => wr3_ j
  | 4 => wr4_ j
  | 5 => wr5_ j
  | 6 => wr6_ j
  | 7 => wr7_ j
  | 8 => wr8_ j
  | 9 => wr9_ j
  | 10 => wr10_ j
  | 11 => wr11_ j
  | 12 => wr12_ j
  | 13 => wr13_ j
  | 14 => wr14_ j
  | _ => wr15_ j
theorem rdT_eq {i j : Nat} (hi : i < 16) (hj : j < 16) (fr : Fr) : (rdT i j).g fr = ((half 0).then ((at16 i).then (at16 j))).g fr := by
  rcases sixteen hi with rfl | rfl | rfl | rfl | rfl | rfl | rfl | rfl | rfl | rfl | rfl | rfl | rfl | rfl | rfl | rfl
  · exact rd0_eq hj fr
  · exact rd1_eq hj fr
  · exact rd2_eq hj fr
  · exact rd3_eq hj fr
  · exact rd4_eq hj fr
  · exact rd5_eq hj fr
  · exact rd6_eq hj fr
  · exact rd7_eq hj fr
  · exact rd8_eq hj fr
  · exact rd9_eq hj fr
  · exact rd10_eq hj fr
  · exact rd11_eq hj fr
  · exact rd12_eq hj fr
  · exact rd13_eq hj fr
  · exact rd14_eq hj fr
  · exact rd15_eq hj fr
theorem wrT_eq {i j : Nat} (hi : i < 16) (hj : j < 16) (fr : Fr) (x : AV) : (wrT i j).s fr x = ((half 0).then ((at16 i).then (at16 j))).u fr fun _ => x := by
  rcases sixteen hi with rfl | rfl | rfl | rfl | rfl | rfl | rfl | rfl | rfl | rfl | rfl | rfl | rfl | rfl | rfl | rfl
  · exact wr0_eq hj fr x
  · exact wr1_eq hj fr x
  · exact wr2_eq hj fr x
  · exact wr3_eq hj fr x
  · exact wr4_eq hj fr x
  · exact wr5_eq hj fr x
  · exact wr6_eq hj fr x
  · exact wr7_eq hj fr x
  · exact wr8_eq hj fr x
  · exact wr9_eq hj fr x
  · exact wr10_eq hj fr x
  · exact wr11_eq hj fr x
  · exact wr12_eq hj fr x
  · exact wr13_eq hj fr x
  · exact wr14_eq hj fr x
  · exact wr15_eq hj fr x
/-- A slot is read. -/
def rdE (t : Nat) : EvC := if t < 256 then rdT (t / 16) (t % 16) else if t < 512 then ⟨(slot t).g⟩ else ⟨fun _ => AV.any⟩
theorem rdE_eq (t : Nat) (fr : Fr) : (rdE t).g fr = fr.get t := by
  simp only [rdE, Fr.get, rdC]
  by_cases h : t < 256
  · rw [if_pos h, if_pos (show t < 512 by omega), rdT_eq (by omega) (by omega)]
    unfold slot
    rw [show t / 256 = 0 by omega, show t / 16 % 16 = t / 16 by omega]
  · rw [if_neg h]
    split <;> rfl
/-- A slot is written. -/
def wrF (N : Nat) (d : Option Nat) : Wr := match d with
  | some t => if t < N ∧ t < 256 then wrT (t / 16) (t % 16) else wrC N (some t)
  | none => ⟨fun fr _ => fr⟩
theorem wrF_eq (N : Nat) (d : Option Nat) (fr : Fr) (x : AV) : (wrF N d).s fr x = putA N fr d x := by
  cases d with
  | none => rfl
  | some t =>
    simp only [wrF, putA]
    by_cases h : t < N ∧ t < 256
    · rw [if_pos h, wrT_eq (by omega) (by omega)]
      simp only [wrC]
      rw [if_pos ⟨h.1, by omega⟩]
      unfold slot
      rw [show t / 256 = 0 by omega, show t / 16 % 16 = t / 16 by omega]
    · rw [if_neg h]
#print axioms wrF_eq
end Go.Proofs.YthklnpkjlepagaaGreatDoor.Ab
