/- A law of integers: at every choice. -/
import Derived.Test.YthklnpkjlepagaaGreatDoorMAbgxAbc
import Derived.Test.YthklnpkjlepagaaGreatDoorMQbkxAk9
import Derived.Test.YthklnpkjlepagaaGreatDoorLna
import Derived.Test.YthklnpkjlepagaaGreatDoorLnb
import Derived.Test.YthklnpkjlepagaaGreatDoorLnc
import Derived.Test.YthklnpkjlepagaaGreatDoorLnd
import Derived.Test.YthklnpkjlepagaaGreatDoorLne
import Derived.Test.YthklnpkjlepagaaGreatDoorLnf
import Derived.Test.YthklnpkjlepagaaGreatDoorLng
import Derived.Test.YthklnpkjlepagaaGreatDoorLnh
import Derived.Test.YthklnpkjlepagaaGreatDoorLni
import Derived.Test.YthklnpkjlepagaaGreatDoorLnj
import Derived.Test.YthklnpkjlepagaaGreatDoorLnk
import Derived.Test.YthklnpkjlepagaaGreatDoorLnl
import Derived.Test.YthklnpkjlepagaaGreatDoorLnm
import Derived.Test.YthklnpkjlepagaaGreatDoorLnn
import Derived.Test.YthklnpkjlepagaaGreatDoorLno
import Derived.Test.YthklnpkjlepagaaGreatDoorLnp
import Derived.Test.YthklnpkjlepagaaGreatDoorLnq
import Derived.Test.YthklnpkjlepagaaGreatDoorLnr
import Derived.Test.YthklnpkjlepagaaGreatDoorLns
import Derived.Test.YthklnpkjlepagaaGreatDoorLnt
import Derived.Test.YthklnpkjlepagaaGreatDoorLnu
import Derived.Test.YthklnpkjlepagaaGreatDoorLnv
import Derived.Test.YthklnpkjlepagaaGreatDoorLnw
import Derived.Test.YthklnpkjlepagaaGreatDoorLnx
namespace Go.Proofs.YthklnpkjlepagaaGreatDoor.Ab
open Go.RowKit

theorem anyLn (a0 a1 : Int) (W : World) (h : BndAt W) : Calls Tryz.prog 7 #[.int .i64 a0, .int .i64 a1] W fun e w' => e = .returned (.bool true) ∧ Below W.heap.size W w' := by
  obtain ⟨k0, e0, l0⟩ := wi_nat a0 8 (by decide)
  obtain ⟨k1, e1, l1⟩ := wi_nat a1 ((k0 : Nat) + 1 : Int) (by omega)
  have hr : isTrueA (callF Tryz.prog (Tabs.mk tis [ [Tryz.f0, Tryz.f1, Tryz.f2, Tryz.f3, Tryz.f4, Tryz.f5, Tryz.f6, Tryz.f7, Tryz.f8, Tryz.f9, Tryz.f10, Tryz.f11, Tryz.f12, Tryz.f13, Tryz.f14, Tryz.f15], [Tryz.f16, Tryz.f17, Tryz.f18, Tryz.f19, Tryz.f20, Tryz.f21, Tryz.f22, Tryz.f23, Tryz.f24, Tryz.f25, Tryz.f26, Tryz.f27, Tryz.f28, Tryz.f29, Tryz.f30, Tryz.f31], [Tryz.f32, Tryz.f33, Tryz.f34, Tryz.f35, Tryz.f36, Tryz.f37, Tryz.f38, Tryz.f39, Tryz.f40, Tryz.f41, Tryz.f42, Tryz.f43, Tryz.f44, Tryz.f45, Tryz.f46, Tryz.f47], [Tryz.f48, Tryz.f49, Tryz.f50, Tryz.f51, Tryz.f52, Tryz.f53, Tryz.f54, Tryz.f55, Tryz.f56, Tryz.f57, Tryz.f58, Tryz.f59, Tryz.f60, Tryz.f61, Tryz.f62, Tryz.f63], [Tryz.f64, Tryz.f65, Tryz.f66, Tryz.f67, Tryz.f68, Tryz.f69, Tryz.f70, Tryz.f71, Tryz.f72, Tryz.f73, Tryz.f74, Tryz.f75, Tryz.f76, Tryz.f77, Tryz.f78, Tryz.f79], [Tryz.f80, Tryz.f81, Tryz.f82, Tryz.f83, Tryz.f84, Tryz.f85, Tryz.f86, Tryz.f87, Tryz.f88, Tryz.f89, Tryz.f90, Tryz.f91, Tryz.f92, Tryz.f93, Tryz.f94, Tryz.f95], [Tryz.f96, Tryz.f97, Tryz.f98, Tryz.f99, Tryz.f100, Tryz.f101, Tryz.f102, Tryz.f103, Tryz.f104, Tryz.f105, Tryz.f106, Tryz.f107, Tryz.f108, Tryz.f109, Tryz.f110, Tryz.f111], [Tryz.f112, Tryz.f113, Tryz.f114, Tryz.f115, Tryz.f116, Tryz.f117, Tryz.f118, Tryz.f119, Tryz.f120, Tryz.f121, Tryz.f122, Tryz.f123, Tryz.f124, Tryz.f125, Tryz.f126, Tryz.f127], [Tryz.f128, Tryz.f129, Tryz.f130, Tryz.f131, Tryz.f132, Tryz.f133, Tryz.f134, Tryz.f135, Tryz.f136, Tryz.f137, Tryz.f138, Tryz.f139, Tryz.f140, Tryz.f141, Tryz.f142, Tryz.f143], [Tryz.f144, Tryz.f145, Tryz.f146, Tryz.f147, Tryz.f148, Tryz.f149, Tryz.f150, Tryz.f151, Tryz.f152, Tryz.f153, Tryz.f154, Tryz.f155, Tryz.f156, Tryz.f157, Tryz.f158, Tryz.f159], [Tryz.f160, Tryz.f161, Tryz.f162, Tryz.f163, Tryz.f164, Tryz.f165, Tryz.f166, Tryz.f167, Tryz.f168, Tryz.f169, Tryz.f170, Tryz.f171, Tryz.f172, Tryz.f173, Tryz.f174, Tryz.f175], [Tryz.f176, Tryz.f177, Tryz.f178, Tryz.f179, Tryz.f180, Tryz.f181, Tryz.f182, Tryz.f183, Tryz.f184, Tryz.f185, Tryz.f186, Tryz.f187, Tryz.f188, Tryz.f189, Tryz.f190, Tryz.f191], [Tryz.f192, Tryz.f193, Tryz.f194, Tryz.f195, Tryz.f196, Tryz.f197, Tryz.f198, Tryz.f199, Tryz.f200, Tryz.f201, Tryz.f202, Tryz.f203, Tryz.f204, Tryz.f205, Tryz.f206, Tryz.f207], [Tryz.f208, Tryz.f209, Tryz.f210, Tryz.f211, Tryz.f212, Tryz.f213, Tryz.f214, Tryz.f215, Tryz.f216, Tryz.f217, Tryz.f218, Tryz.f219, Tryz.f220, Tryz.f221, Tryz.f222, Tryz.f223], [Tryz.f224, Tryz.f225, Tryz.f226, Tryz.f227, Tryz.f228, Tryz.f229, Tryz.f230, Tryz.f231, Tryz.f232, Tryz.f233, Tryz.f234, Tryz.f235, Tryz.f236, Tryz.f237, Tryz.f238, Tryz.f239], [Tryz.f240, Tryz.f241, Tryz.f242, Tryz.f243, Tryz.f244, Tryz.f245, Tryz.f246, Tryz.f247, Tryz.f248, Tryz.f249, Tryz.f250, Tryz.f251, Tryz.f252, Tryz.f253, Tryz.f254, Tryz.f255], [Tryz.f256, Tryz.f257, Tryz.f258, Tryz.f259, Tryz.f260, Tryz.f261, Tryz.f262, Tryz.f263, Tryz.f264, Tryz.f265, Tryz.f266, Tryz.f267, Tryz.f268, Tryz.f269, Tryz.f270, Tryz.f271], [Tryz.f272, Tryz.f273, Tryz.f274, Tryz.f275, Tryz.f276, Tryz.f277, Tryz.f278, Tryz.f279, Tryz.f280, Tryz.f281, Tryz.f282, Tryz.f283, Tryz.f284, Tryz.f285, Tryz.f286, Tryz.f287], [Tryz.f288, Tryz.f289, Tryz.f290, Tryz.f291, Tryz.f292, Tryz.f293, Tryz.f294, Tryz.f295, Tryz.f296, Tryz.f297, Tryz.f298, Tryz.f299, Tryz.f300, Tryz.f301, Tryz.f302, Tryz.f303], [Tryz.f304, Tryz.f305, Tryz.f306, Tryz.f307, Tryz.f308, Tryz.f309, Tryz.f310, Tryz.f311, Tryz.f312, Tryz.f313, Tryz.f314, Tryz.f315, Tryz.f316, Tryz.f317, Tryz.f318, Tryz.f319], [Tryz.f320, Tryz.f321]] globs) (extOr (extTrue 9) (extOr (extMod 10 [8, ((k0 : Nat) + 1 : Int)] [((k0 : Nat) : Int), ((k1 : Nat) : Int)]) (extOr (extStr 262) (extBack 176 28 51)))) 1000000 2000 7 [AV.sym 0, AV.sym 1] Hp.emp 0) = true := by
    match k0, l0, k1, l1 with
    | 0, _, 0, _ => exact List.all_eq_true.1 rLna ([8, 1], [0, 0]) (by simp)
    | 1, _, 0, _ => exact List.all_eq_true.1 rLna ([8, 2], [1, 0]) (by simp)
    | 1, _, 1, _ => exact List.all_eq_true.1 rLna ([8, 2], [1, 1]) (by simp)
    | 2, _, 0, _ => exact List.all_eq_true.1 rLna ([8, 3], [2, 0]) (by simp)
    | 2, _, 1, _ => exact List.all_eq_true.1 rLnb ([8, 3], [2, 1]) (by simp)
    | 2, _, 2, _ => exact List.all_eq_true.1 rLnb ([8, 3], [2, 2]) (by simp)
    | 3, _, 0, _ => exact List.all_eq_true.1 rLnb ([8, 4], [3, 0]) (by simp)
    | 3, _, 1, _ => exact List.all_eq_true.1 rLnb ([8, 4], [3, 1]) (by simp)
    | 3, _, 2, _ => exact List.all_eq_true.1 rLnc ([8, 4], [3, 2]) (by simp)
    | 3, _, 3, _ => exact List.all_eq_true.1 rLnc ([8, 4], [3, 3]) (by simp)
    | 4, _, 0, _ => exact List.all_eq_true.1 rLnd ([8, 5], [4, 0]) (by simp)
    | 4, _, 1, _ => exact List.all_eq_true.1 rLnd ([8, 5], [4, 1]) (by simp)
    | 4, _, 2, _ => exact List.all_eq_true.1 rLne ([8, 5], [4, 2]) (by simp)
    | 4, _, 3, _ => exact List.all_eq_true.1 rLne ([8, 5], [4, 3]) (by simp)
    | 4, _, 4, _ => exact List.all_eq_true.1 rLnf ([8, 5], [4, 4]) (by simp)
    | 5, _, 0, _ => exact List.all_eq_true.1 rLng ([8, 6], [5, 0]) (by simp)
    | 5, _, 1, _ => exact List.all_eq_true.1 rLng ([8, 6], [5, 1]) (by simp)
    | 5, _, 2, _ => exact List.all_eq_true.1 rLnh ([8, 6], [5, 2]) (by simp)
    | 5, _, 3, _ => exact List.all_eq_true.1 rLnh ([8, 6], [5, 3]) (by simp)
    | 5, _, 4, _ => exact List.all_eq_true.1 rLni ([8, 6], [5, 4]) (by simp)
    | 5, _, 5, _ => exact List.all_eq_true.1 rLni ([8, 6], [5, 5]) (by simp)
    | 6, _, 0, _ => exact List.all_eq_true.1 rLnj ([8, 7], [6, 0]) (by simp)
    | 6, _, 1, _ => exact List.all_eq_true.1 rLnk ([8, 7], [6, 1]) (by simp)
    | 6, _, 2, _ => exact List.all_eq_true.1 rLnl ([8, 7], [6, 2]) (by simp)
    | 6, _, 3, _ => exact List.all_eq_true.1 rLnm ([8, 7], [6, 3]) (by simp)
    | 6, _, 4, _ => exact List.all_eq_true.1 rLnn ([8, 7], [6, 4]) (by simp)
    | 6, _, 5, _ => exact List.all_eq_true.1 rLno ([8, 7], [6, 5]) (by simp)
    | 6, _, 6, _ => exact List.all_eq_true.1 rLnp ([8, 7], [6, 6]) (by simp)
    | 7, _, 0, _ => exact List.all_eq_true.1 rLnq ([8, 8], [7, 0]) (by simp)
    | 7, _, 1, _ => exact List.all_eq_true.1 rLnr ([8, 8], [7, 1]) (by simp)
    | 7, _, 2, _ => exact List.all_eq_true.1 rLns ([8, 8], [7, 2]) (by simp)
    | 7, _, 3, _ => exact List.all_eq_true.1 rLnt ([8, 8], [7, 3]) (by simp)
    | 7, _, 4, _ => exact List.all_eq_true.1 rLnu ([8, 8], [7, 4]) (by simp)
    | 7, _, 5, _ => exact List.all_eq_true.1 rLnv ([8, 8], [7, 5]) (by simp)
    | 7, _, 6, _ => exact List.all_eq_true.1 rLnw ([8, 8], [7, 6]) (by simp)
    | 7, _, 7, _ => exact List.all_eq_true.1 rLnx ([8, 8], [7, 7]) (by simp)
    | 0, _, k + 1, h => omega
    | 1, _, k + 2, h => omega
    | 2, _, k + 3, h => omega
    | 3, _, k + 4, h => omega
    | 4, _, k + 5, h => omega
    | 5, _, k + 6, h => omega
    | 6, _, k + 7, h => omega
    | 7, _, k + 8, h => omega
    | k + 8, h, _, _ => omega
  have hk : (k0 : Int) < 8 := l0
  refine law_trueF (S := fun i => .int .i64 ([a0, a1].getD i 0)) tabsB_ok tabsB_zero no_num mixed codes tabsB_fns (extOr_ok known9 (extOr_ok (ext10 fun i m k h1 h2 => ?_) (extOr_ok ext262 ext176))) hr (globs_ok h) ?_
  · match i, h1, h2 with
    | 0, h1, h2 =>
      simp at h1 h2
      subst h1; subst h2
      exact ⟨a0, rfl, e0, by decide, by decide⟩
    | 1, h1, h2 =>
      simp at h1 h2
      subst h1; subst h2
      exact ⟨a1, rfl, e1, by omega, by omega⟩
    | i + 2, h1, h2 => simp at h1
  · exact ⟨rv_sym (C := bareC _ W) (a := 0), rv_sym (C := bareC _ W) (a := 1), trivial⟩
#print axioms anyLn
end Go.Proofs.YthklnpkjlepagaaGreatDoor.Ab
